/-
  The chapter's examples, as the statements check them. Conditions: the table lies as the rows say.
-/
import Derived.Test.YtkhdfjneibnlmaaDoorFrS
import Derived.Test.YtkhdfjneibnlmaaDoorFrG
import Derived.Deep.RegionWith
import Derived.OwnWalk
import Derived.Outline
import Derived.Lib.SmallJoins
import Derived.Lib.BufferRead
import Derived.WalkKit
import Derived.WalkSpells
import Derived.WalkLawsBesides
import Derived.Deep.QuietTactic
import Derived.BigQuiet
import Derived.Handy
import Derived.Lib.Hide
namespace Go.Proofs.YtkhdfjneibnlmaaDoor
open Go.RowKit

theorem conv_rdB {w : World} {L B : Nat} {v : Value} {l : List UInt8} (h : RdB w L B v l) : (convert 22 9 v).run Tryd.prog w = .ok (.string (ByteArray.mk l.toArray)) w := by
  have h0 := h
  obtain ⟨A, c, rfl, _, _, _⟩ := h
  cases A with
  | none =>
    have hm0 : l = [] := by
      cases l with
      | nil => rfl
      | cons b t => obtain ⟨ad, h1, _⟩ := h0.at (k := 0) rfl; cases h1
    subst hm0
    exact Lib.run_convert_nil_bytes w _ _ 5 c Tryd.underlying22 Tryd.underlying5 Tryd.underlying9
  | some ad =>
    exact run_convert_bytes_back w _ _ 5 ad c l Tryd.underlying22 Tryd.underlying5 Tryd.underlying9 (fun j hj => by
      obtain ⟨ad2, h1, _, _, h4⟩ := h0.at (List.getElem?_eq_getElem hj)
      injection h1 with h1; subst h1; exact h4)
theorem rdB_cells {w : World} {g : Nat} {t : TypeId} {fr : Nat × Nat} {cs : Array Value} {l : List UInt8} (h : w.heap[g]? = some (.cells cs t fr)) (hcs : cs = (bytV l).toArray) (hl : l.length ≤ 9223372036854775807) : RdB w 0 w.heap.size (.slice (some ⟨g, 0, none⟩) l.length l.length) l := by
  subst hcs
  refine ⟨_, _, rfl, hl, Nat.le_refl _, fun k b hk => ⟨_, rfl, Nat.zero_le _, ?_, ?_⟩⟩
  · rcases Nat.lt_or_ge g w.heap.size with h1 | h1
    · exact h1
    · rw [Array.getElem?_eq_none h1] at h; cases h
  · have e : w.cell? ⟨g, k, none⟩ = (bytV l).toArray[k]? := cell_of_row w g k _ _ _ h
    have hv : (bytV l)[k]? = some (.int .u8 (b.toNat : Nat)) := by unfold bytV; rw [List.getElem?_map, hk]; rfl
    rw [show (⟨g, 0, none⟩ : Addr).add k = ⟨g, k, none⟩ by unfold Addr.add; split <;> simp_all, e]
    simpa using hv
theorem bel_mark (w : World) (o : Obj) : Below w.heap.size w (w.alloc o) := (Below.refl w.heap.size w).alloc (Nat.le_refl _) o
theorem heap_mark (w : World) (o : Obj) : (w.alloc o).heap[w.heap.size]? = some o := heap_alloc_new w o
theorem works_n1 : nextF (frmL [7] [97, 98, 99]) 1 = (0, [97, 98, 99], 12) := by decide +kernel
theorem works_n2 : nextF (frmL [7] [97, 98, 99] ++ [0, 0, 0]) 12 = (2, [], 0) := by decide +kernel
theorem works_s1 : crc [49, 50, 51, 52, 53, 54, 55, 56, 57] = 3808858755 := by decide +kernel
theorem works_s2 : crc [] = 0 := by decide +kernel
theorem works_l1 : (frmL [7] [97, 98, 99]).length = 12 := by decide +kernel
set_option maxRecDepth 100000 in
set_option maxHeartbeats 6400000 in
theorem works_any (w : World) (henv : Env w) : Calls Tryd.prog 11 #[] w fun e w' => e = .returned (.bool true) ∧ Below w.heap.size w w' := by
  have hcv := Go.Joins.run_convert_bytes_const_at (P := Tryd.prog) (w.alloc (.cells #[.int .u8 7] 5)) 22 5 #[.int .u8 97, .int .u8 98, .int .u8 99] 3 3 (w.heap.size + 1) (by simp) Tryd.underlying22 Tryd.underlying5
  have b1 := bel_mark w (.cells #[.int .u8 7] 5)
  have b2 := b1.trans ((bel_mark (w.alloc (.cells #[.int .u8 7] 5)) (.cells #[.int .u8 97, .int .u8 98, .int .u8 99] 5 (3, 4))).mono b1.size)
  have h1 : ((w.alloc (.cells #[.int .u8 7] 5)).alloc (.cells #[.int .u8 97, .int .u8 98, .int .u8 99] 5 (3, 4))).heap[w.heap.size]? = some (.cells #[.int .u8 7] 5) := (Below.heap_alloc _ _ _ (by simp)).trans (heap_mark _ _)
  have h2 : ((w.alloc (.cells #[.int .u8 7] 5)).alloc (.cells #[.int .u8 97, .int .u8 98, .int .u8 99] 5 (3, 4))).heap[w.heap.size + 1]? = some (.cells #[.int .u8 97, .int .u8 98, .int .u8 99] 5 (3, 4)) := by
    have := heap_mark (w.alloc (.cells #[.int .u8 7] 5)) (.cells #[.int .u8 97, .int .u8 98, .int .u8 99] 5 (3, 4))
    simpa using this
  have r1 := rdB_cells (l := [7]) h1 rfl (by decide)
  have r2 := rdB_cells (l := [97, 98, 99]) h2 rfl (by decide)
  have hA := pAppend_any _ _ [7] [97, 98, 99] _ 0 0 (henv.step b2) r1 r2 (by decide) (by decide) (by intro n c h; cases h)
  have HA := Lib.hid hA
  have z2 := b2.size
  clear hA r1 r2 h1 h2
  go_enter Tryd.func11, Tryd.ntmps11
  go_wp2_with fail
  refine HA.out.mono ?_
  rintro e w3 ⟨v3, rfl, ho3, hb3⟩
  have B3 := b2.trans (hb3.mono z2)
  have z3 := B3.size
  have n1 := works_n1
  have n2 := works_n2
  have hl := works_l1
  generalize frmL [7] [97, 98, 99] = F at *
  have R3 := Lib.hid ((RdB.of_own ho3 (by rw [hl]; decide)).more (Nat.le_refl _) (Nat.zero_le _))
  obtain ⟨g3, c3, hv3⟩ := Go.Joins.ownsRow_form ho3 (by rw [hl]; decide)
  rw [hl] at hv3
  subst hv3
  have hN := pNext_any _ F 1 w3 0 (henv.step B3) R3.out
  rw [n1] at hN
  have HN := Lib.hid hN
  clear hN HA hb3 ho3
  go_wp2_with fail
  with_reducible refine HN.out.mono ?_
  rintro e w4 ⟨v4, rfl, r4, hb4⟩
  clear HN
  have B4 := B3.trans (hb4.mono z3)
  have z4 := B4.size
  have R34 := Lib.hid (R3.out.step hb4 (Nat.le_refl _))
  have R4 := Lib.hid r4
  have b5 := bel_mark w4 (.cells #[] 5)
  have O5 := Lib.hid (own_lit w4 [] (by unfold maxLen; simp) #[] rfl)
  have z5 := b5.size
  have R35 := Lib.hid (R34.out.step b5 (Nat.le_refl _))
  have HL := Lib.hid (show ([] : List UInt8).length + F.length ≤ 70368744177664 by rw [hl]; decide)
  have HL2 := Lib.hid (show F.length + ([0, 0, 0] : List UInt8).length ≤ 70368744177664 by rw [hl]; decide)
  have HL3 := Lib.hid (show (F ++ [0, 0, 0]).length ≤ 9223372036854775807 by rw [List.length_append, hl]; decide)
  have HN2 := Lib.hid n2
  have N1 := Lib.hid n1
  have HFL := Lib.hid hl
  clear r4 n1 n2 hl
  go_wp2_with (first
    | (at_builtin; refine append_x _ rfl _ _ rfl w4.heap.size _ [] rfl O5.out (.slice (some ⟨g3, 0, none⟩) 12 c3) F _ _ rfl R35.out (by rintro n' c' h'; cases h') HL.out z5 ?_; intro v6 w6 ho6 hb6; rw [List.nil_append] at ho6; have O6 := Lib.hid ho6; have b6 := b5.trans hb6; have z6 := b6.size; clear ho6)
    | (at_builtin; refine append_x _ rfl _ _ rfl w4.heap.size _ F rfl (O6.out.alloc _) (.slice (some ⟨w6.heap.size, 0, none⟩) 3 3) [0, 0, 0] _ _ rfl (rdB_cells (l := [0, 0, 0]) (heap_mark w6 _) rfl (by decide)) (by rintro n' c' h'; cases h') HL2.out (Nat.le_trans z6 (bel_mark w6 _).size) ?_; intro v7 w7 ho7 hb7; have O7 := Lib.hid ho7; have b7 := b6.trans (((bel_mark w6 _).mono z6).trans hb7); have z7 := b7.size; clear ho7))
  have B7 := B4.trans (b7.mono z4)
  have z7b := B7.size
  have hM := pNext_any v7 (F ++ [0, 0, 0]) 12 w7 0 (henv.step B7) ((RdB.of_own O7.out HL3.out).more (Nat.le_refl _) (Nat.zero_le _))
  rw [HN2.out] at hM
  have HM := Lib.hid hM
  clear hM
  with_reducible refine HM.out.mono ?_
  rintro e w8 ⟨v8, rfl, r8, hb8⟩
  clear HM r8
  have b8 := b7.trans (hb8.mono z7)
  have B8 := B7.trans (hb8.mono z7b)
  have z8 := B8.size
  have R48 := Lib.hid (R4.out.step b8 (Nat.le_refl _))
  have hcv2 := Go.Joins.run_convert_bytes_const_at (P := Tryd.prog) w8 22 5 #[.int .u8 49, .int .u8 50, .int .u8 51, .int .u8 52, .int .u8 53, .int .u8 54, .int .u8 55, .int .u8 56, .int .u8 57] 9 9 w8.heap.size rfl Tryd.underlying22 Tryd.underlying5
  have b9 := bel_mark w8 (.cells #[.int .u8 49, .int .u8 50, .int .u8 51, .int .u8 52, .int .u8 53, .int .u8 54, .int .u8 55, .int .u8 56, .int .u8 57] 5 (9, 10))
  have B9 := B8.trans (b9.mono z8)
  have hS := pSum_any _ _ _ 0 (henv.step B9) (rdB_cells (l := [49, 50, 51, 52, 53, 54, 55, 56, 57]) (heap_mark w8 _) rfl (by decide))
  rw [works_s1] at hS
  have HS := Lib.hid hS
  have R49 := Lib.hid (R48.out.step b9 (Nat.le_refl _))
  clear hS
  go_wp2_with fail
  refine HS.out.mono ?_
  rintro e w10 ⟨rfl, hb10⟩
  clear HS
  have B10 := B9.trans (hb10.mono B9.size)
  have hS2 := pSum_any _ [] w10 0 (henv.step B10) (rdB_nil w10 0 w10.heap.size)
  rw [works_s2] at hS2
  have HS2 := Lib.hid hS2
  clear hS2
  have R410 := Lib.hid (R49.out.step hb10 (Nat.le_refl _))
  go_wp2_with fail
  with_reducible refine HS2.out.mono ?_
  rintro e w11 ⟨rfl, hb11⟩
  clear HS2
  have B11 := B10.trans (hb11.mono B10.size)
  have hc := conv_rdB (R410.out.step hb11 (Nat.le_refl _))
  have hl1 := fun W => pLen_any 3 W
  have hl2 := fun W => pLen_any (-1) W
  rw [show lenF 3 = 11 by decide] at hl1
  rw [show lenF (-1) = 0 by decide] at hl2
  have HC := Lib.hid hc
  have HL1 := Lib.hid hl1
  have HL9 := Lib.hid hl2
  clear hl1 hl2 hcv hcv2
  go_wp2_with fail
  with_reducible refine (HL1.out _).mono ?_
  rintro e w12 ⟨rfl, rfl⟩
  go_wp2_with fail
  with_reducible refine (HL9.out _).mono ?_
  rintro e w13 ⟨rfl, rfl⟩
  go_wp2_with fail
  go_ret
  exact ⟨rfl, B11⟩
end Go.Proofs.YtkhdfjneibnlmaaDoor
