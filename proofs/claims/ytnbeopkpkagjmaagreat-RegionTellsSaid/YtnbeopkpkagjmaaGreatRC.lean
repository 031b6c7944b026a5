import Derived.Test.YtnbeopkpkagjmaaGreatRB
import Derived.Test.YtnbeopkpkagjmaaGreatMA
import Derived.Test.YtnbeopkpkagjmaaGreatMP
import Derived.Test.YtnbeopkpkagjmaaGreatMQ
import Derived.Laws.OwnMore
import Derived.IntWalk
import Derived.Deep.RegionHeld3
import Derived.Deep.RegionLawGrows
import Derived.Deep.DeepCutAuto
import Derived.Deep.AppendLies
import Derived.WalkKit
import Derived.WalkSpells
import Derived.WalkLawsBesides
import Derived.Deep.QuietTactic
import Derived.BigQuiet
import Derived.Handy
import Derived.Lib.Hide
/-
  Contract of region.joined: sorted valid periods become a span. Conditions: at most a million periods.
-/
namespace Go.Proofs.YtnbeopkpkagjmaaGreat
set_option maxRecDepth 100000
set_option linter.unusedVariables false
set_option linter.unusedSimpArgs false
open Go.RowKit

theorem mjn_step {l : List (Int × Int)} {k : Nat} {p : Int × Int} (hk : l[k]? = some p) : mjn (l.take (k + 1)) = mstep (mjn (l.take k)) p := by
  obtain ⟨hlt, rfl⟩ := List.getElem?_eq_some_iff.1 hk
  unfold mjn
  rw [List.take_succ_eq_append_getElem hlt, List.foldl_append]; rfl
theorem mstep_nil (p : Int × Int) : mstep [] p = [] ++ [p] := rfl
theorem mstep_yes {m : List (Int × Int)} {q p : Int × Int} (h : mrgB q p = true) : mstep (m ++ [q]) p = m ++ [mrgV q p] := by
  unfold mstep mrgV
  rw [show (m ++ [q]).getLast? = some q by simp]
  simp only [List.dropLast_concat]
  rw [if_pos h]
  unfold mrgB at h
  rw [if_pos h]
theorem mstep_no {m : List (Int × Int)} {q p : Int × Int} (h : mrgB q p = false) : mstep (m ++ [q]) p = m ++ [q] ++ [p] := by
  unfold mstep
  rw [show (m ++ [q]).getLast? = some q by simp]
  simp only [List.dropLast_concat]
  rw [if_neg (by unfold mrgB at h; rw [h]; decide)]
theorem flatP_set2 (m : List (Int × Int)) (q z : Int × Int) : ((flatP (m ++ [q])).set (m.length * 2) (.int .i64 z.1)).set (m.length * 2 + 1) (.int .i64 z.2) = flatP (m ++ [z]) := by
  rw [flatP_append, flatP_append, List.set_append, if_neg (by rw [flatP_length]; omega), List.set_append, if_neg (by rw [flatP_length]; omega), flatP_length, show m.length * 2 + 1 - m.length * 2 = 1 by omega, show m.length * 2 - m.length * 2 = 0 by omega]
  rfl
theorem mstep_len (acc : List (Int × Int)) (p : Int × Int) : (mstep acc p).length ≤ acc.length + 1 := by
  rcases List.eq_nil_or_concat acc with rfl | ⟨m, q, rfl⟩
  · simp [mstep]
  · rw [List.concat_eq_append]
    cases h : mrgB q p
    · rw [mstep_no h]; simp
    · rw [mstep_yes h]; simp
theorem mjn_len : ∀ (l : List (Int × Int)), (mjn l).length ≤ l.length := by
  have h : ∀ (l acc : List (Int × Int)), (l.foldl mstep acc).length ≤ acc.length + l.length := by
    intro l
    induction l with
    | nil => intro acc; simp
    | cons p l ih => intro acc; have := ih (mstep acc p); have := mstep_len acc p; rw [List.foldl_cons]; simp at *; omega
  intro l
  have := h l []
  unfold mjn; simpa using this
set_option maxRecDepth 100000 in
set_option maxHeartbeats 3200000 in
theorem rjoined_any (v : Value) (l : List (Int × Int)) (w : World) (L : Nat) (hv : RdP w L w.heap.size v l) (hlen : l.length ≤ 1000000) :
    Calls Tryz.prog 77 #[v] w (RetPers w (mjn l)) := by
  have hv0 := hv
  obtain ⟨A, c, rfl, hl63, _⟩ := hv
  go_enter Tryz.func77, Tryz.ntmps77
  go_wp2
  go_loopw [3, 11] (fun o i wr => ∃ k : Nat, k ≤ l.length ∧ i = .int .i64 k ∧ wr.ownsRow w.heap.size 33 2 o (mjn (l.take k)).length (flatP (mjn (l.take k))) ∧ Below w.heap.size w wr) (fun _ i _ => l.length - (intOf i).toNat)
  case atStart => exact ⟨0, by omega, rfl, own_nilP _ _, Below.refl _ _⟩
  case round =>
    obtain ⟨k, hk, rfl, hown, hbr⟩ := hrel
    have hbz := hbr.size
    by_cases hlt : k < l.length
    · have hx := List.getElem?_eq_getElem hlt
      generalize l[k] = p at hx
      obtain ⟨a, b⟩ := p
      have hS := Lib.hid (mjn_step hx)
      have hle := mjn_len (l.take k)
      rw [List.length_take] at hle
      obtain ⟨ad, rfl, _, hab, c0, c1⟩ := (hv0.below hbr).at hx
      dsimp only at c0 c1
      have bX0 : Below wr.heap.size wr (wr.alloc (.cells #[.int .i64 a, .int .i64 b] 33)) := (Below.refl _ _).alloc (Nat.le_refl _) _
      have oX0 := Own.new wr 33 #[.int .i64 a, .int .i64 b]
      have sX0 : wr.heap.size < (wr.alloc (.cells #[.int .i64 a, .int .i64 b] 33)).heap.size := by simp
      clear hx
      generalize mjn (l.take k) = R at *
      have HOX := Lib.hid (World.ownsRow.alloc hown (.cells #[.int .i64 a, .int .i64 b] 33))
      rcases List.eq_nil_or_concat R with rfl | ⟨m, q, rfl⟩
      · have hS2 := Lib.hid (hS.out.trans (mstep_nil (a, b)))
        have hgt := own_get hown
        clear hown hS
        rcases hgt with ⟨rfl, _⟩ | ⟨g, cc, rfl, hbg, hg, hnc, _⟩
        all_goals
          go_upto_region 7 with fail
          generalize wr.alloc (.cells #[.int .i64 a, .int .i64 b] 33) = V at *
          generalize wr.heap.size = gN at *
          have zV := bX0.size
          have n0 : V.cell? ⟨gN, 0, none⟩ = some (.int .i64 a) := oX0.cell 0
          have n1 : V.cell? ⟨gN, 1, none⟩ = some (.int .i64 b) := oX0.cell 1
          go_wp2_with (at_builtin; refine append_per _ rfl _ _ rfl w.heap.size _ [] rfl (World.ownsRow.alloc HOX.out _) ⟨V.heap.size, 0, none⟩ a b rfl (World.news_of_block (heap_alloc_new _ _)) ?_ ?_ ?_; (focus (simp)); (focus go_size); intro v1 w1 hown1 hb1)
          go_roundw
          case rel => exact ⟨k + 1, by omega, by go_num, by rw [hS2.out]; exact hown1, hbr.trans ((bX0.mono hbz).trans ((((Below.refl w.heap.size V).alloc (by omega) _)).trans hb1))⟩
          case measure => simp [intOf]; omega
      · rw [List.concat_eq_append] at *
        obtain ⟨x, y⟩ := q
        have hgt := own_get hown
        rcases hgt with ⟨_, h0⟩ | ⟨g, cc, rfl, hbg, hg, hnc, hcell⟩
        · simp at h0
        · have hml : (m ++ [(x, y)]).length = m.length + 1 := by simp
          obtain ⟨k0, k1⟩ := flatP_get (m ++ [(x, y)]) m.length (x, y) (by simp)
          have d0 := (bX0.cell (p := ⟨g, m.length * 2, none⟩) hg).trans (hcell _ _ k0)
          have d1 := (bX0.cell (p := ⟨g, m.length * 2 + 1, none⟩) hg).trans (hcell _ _ k1)
          dsimp only at d0 d1
          have HOV : Hid ((wr.alloc (.cells #[.int .i64 a, .int .i64 b] 33)).ownsRow w.heap.size 33 2 (.slice (some ⟨g, 0, none⟩) (m.length + 1) cc) (m ++ [(x, y)]).length (flatP (m ++ [(x, y)]))) := Lib.hid (by
            have h := HOX.out
            rwa [show Value.slice (some ⟨g, 0, none⟩) (m ++ [(x, y)]).length cc = Value.slice (some ⟨g, 0, none⟩) (m.length + 1) cc by rw [hml]] at h)
          have i1 : IntKind.i64.wrap ((m.length : Int) + 1 - 1) = m.length := by rw [show (m.length : Int) + 1 - 1 = m.length by omega]; exact IntWalk.i64_in _ (by omega)
          have i7 : IntKind.i64.wrap (m.length : Int) = m.length := IntWalk.i64_in _ (by omega)
          have i2 : (0 : Int) ≤ (m.length : Int) := by omega
          have i3 : (m.length : Int) < (m.length : Int) + 1 := by omega
          have i4 : decide ((m.length : Int) < 0) = false := by simp
          rw [hml] at hle hnc ⊢
          clear hown hcell k0 k1 HOX hml
          have hM := fun W => merge_any x y a b W
          generalize hqv : mrgV (x, y) (a, b) = z at hM
          obtain ⟨z1, z2⟩ := z
          dsimp only at hM
          cases hA : mrgB (x, y) (a, b)
          · have hS2 := Lib.hid (hS.out.trans (mstep_no hA))
            rw [hA] at hM
            have HM := Lib.hid hM
            clear hS hM hqv hA
            go_upto_region 8 with fail
            generalize wr.alloc (.cells #[.int .i64 a, .int .i64 b] 33) = V at *
            generalize wr.heap.size = gN at *
            have zV := bX0.size
            have n0 : V.cell? ⟨gN, 0, none⟩ = some (.int .i64 a) := oX0.cell 0
            have n1 : V.cell? ⟨gN, 1, none⟩ = some (.int .i64 b) := oX0.cell 1
            have hgV : g < V.heap.size := Nat.lt_trans hg sX0
            have sV : gN < V.heap.size := sX0
            go_region_law (first | (go_simp; go_at_call 89; refine (HM.out _).mono ?_; rintro e w3 ⟨rfl, hb3⟩; try (have oN3 : Own w3 V.heap.size 33 #[.int .i64 0, .int .i64 0] := Own.below (Own.new V.drew 33 #[.int .i64 0, .int .i64 0]) hb3 (by simp); have y0 := oN3.cell 0; have y1 := oN3.cell 1; have y2 := oN3.free 0; have y3 := oN3.free 1)))
            all_goals
              first
              | (generalize hW : w3.alloc (.cells #[.int .i64 z1, .int .i64 z2] 33) = W4 at *
                 have B3 : Below V.heap.size V w3 := (Below.refl V.heap.size V).drew.trans (show Below V.heap.size V.drew w3 from hb3)
                 have BW : Below V.heap.size V W4 := by rw [← hW]; exact B3.alloc B3.size _
                 have oW : Own W4 w3.heap.size 33 #[.int .i64 z1, .int .i64 z2] := by rw [← hW]; exact Own.new w3 _ _)
              | (generalize hW : (w3.setCell ⟨V.heap.size, 0, none⟩ (.int .i64 z1)).setCell ⟨V.heap.size, 1, none⟩ (.int .i64 z2) = W4 at *
                 have B3 : Below V.heap.size V w3 := ((Below.refl V.heap.size V).drew.alloc (Nat.le_refl _) (.cells #[.int .i64 0, .int .i64 0] 33)).trans (hb3.mono (by simp))
                 have BW : Below V.heap.size V W4 := by rw [← hW]; exact (B3.setCell (Nat.le_refl _) _).setCell (Nat.le_refl _) _
                 have oW : Own W4 V.heap.size 33 #[.int .i64 z1, .int .i64 z2] := by rw [← hW]; exact (oN3.store 0 (.int .i64 z1)).store 1 (.int .i64 z2)
                 clear oN3 y0 y1 y2 y3)
              clear hW B3 hb3
              have zW := BW.size
              have HX := Lib.hid (own_below HOV.out BW)
              have oN := Own.below oX0 BW sX0
              have n0 := oN.cell 0
              have n1 := oN.cell 1
              have q0 := oW.cell 0
              have q1 := oW.cell 1
              have hgW : gN < W4.heap.size := Nat.lt_of_lt_of_le sX0 zW
              have BX : Below w.heap.size w W4 := hbr.trans ((bX0.mono hbz).trans (BW.mono (by omega)))
              go_wp2_with (at_builtin; refine append_per _ rfl _ _ rfl w.heap.size _ (m ++ [(x, y)]) rfl (World.ownsRow.alloc HX.out _) ⟨W4.heap.size, 0, none⟩ a b rfl (World.news_of_block (heap_alloc_new _ _)) ?_ ?_ ?_; (focus (rw [List.length_append, List.length_singleton]; omega)); (focus go_size); intro v1 w1 hown1 hb1)
              go_roundw
              case rel => exact ⟨k + 1, by omega, by go_num, by rw [hS2.out]; exact hown1, BX.trans (((Below.refl w.heap.size W4).alloc (by omega) _).trans hb1)⟩
              case measure => simp [intOf]; omega
          · have hS2 := Lib.hid (hS.out.trans ((mstep_yes hA).trans (by rw [hqv])))
            rw [hA] at hM
            have HM := Lib.hid hM
            clear hS hM hqv hA
            go_upto_region 8 with fail
            generalize wr.alloc (.cells #[.int .i64 a, .int .i64 b] 33) = V at *
            generalize wr.heap.size = gN at *
            have zV := bX0.size
            have n0 : V.cell? ⟨gN, 0, none⟩ = some (.int .i64 a) := oX0.cell 0
            have n1 : V.cell? ⟨gN, 1, none⟩ = some (.int .i64 b) := oX0.cell 1
            have hgV : g < V.heap.size := Nat.lt_trans hg sX0
            have sV : gN < V.heap.size := sX0
            go_region_law (first | (go_simp; go_at_call 89; refine (HM.out _).mono ?_; rintro e w3 ⟨rfl, hb3⟩; try (have oN3 : Own w3 V.heap.size 33 #[.int .i64 0, .int .i64 0] := Own.below (Own.new V.drew 33 #[.int .i64 0, .int .i64 0]) hb3 (by simp); have y0 := oN3.cell 0; have y1 := oN3.cell 1; have y2 := oN3.free 0; have y3 := oN3.free 1)))
            all_goals
              first
              | (generalize hW : w3.alloc (.cells #[.int .i64 z1, .int .i64 z2] 33) = W4 at *
                 have B3 : Below V.heap.size V w3 := (Below.refl V.heap.size V).drew.trans (show Below V.heap.size V.drew w3 from hb3)
                 have BW : Below V.heap.size V W4 := by rw [← hW]; exact B3.alloc B3.size _
                 have oW : Own W4 w3.heap.size 33 #[.int .i64 z1, .int .i64 z2] := by rw [← hW]; exact Own.new w3 _ _)
              | (generalize hW : (w3.setCell ⟨V.heap.size, 0, none⟩ (.int .i64 z1)).setCell ⟨V.heap.size, 1, none⟩ (.int .i64 z2) = W4 at *
                 have B3 : Below V.heap.size V w3 := ((Below.refl V.heap.size V).drew.alloc (Nat.le_refl _) (.cells #[.int .i64 0, .int .i64 0] 33)).trans (hb3.mono (by simp))
                 have BW : Below V.heap.size V W4 := by rw [← hW]; exact (B3.setCell (Nat.le_refl _) _).setCell (Nat.le_refl _) _
                 have oW : Own W4 V.heap.size 33 #[.int .i64 z1, .int .i64 z2] := by rw [← hW]; exact (oN3.store 0 (.int .i64 z1)).store 1 (.int .i64 z2)
                 clear oN3 y0 y1 y2 y3)
              clear hW B3 hb3
              have zW := BW.size
              have HX := Lib.hid (own_below HOV.out BW)
              have oN := Own.below oX0 BW sX0
              have n0 := oN.cell 0
              have n1 := oN.cell 1
              have q0 := oW.cell 0
              have q1 := oW.cell 1
              have hgW : gN < W4.heap.size := Nat.lt_of_lt_of_le sX0 zW
              have BX : Below w.heap.size w W4 := hbr.trans ((bX0.mono hbz).trans (BW.mono (by omega)))
              have hml : (m ++ [(x, y)]).length = m.length + 1 := by simp
              have HX2 : Hid (W4.ownsRow w.heap.size 33 2 (.slice (some ⟨g, 0, none⟩) (m.length + 1) cc) (m.length + 1) (flatP (m ++ [(x, y)]))) := Lib.hid (by have h := HX.out; rwa [hml] at h)
              have r0 := (BW.cell (p := ⟨g, m.length * 2, none⟩) hgV).trans d0
              have r1 := (BW.cell (p := ⟨g, m.length * 2 + 1, none⟩) hgV).trans d1
              have fr0 := World.ownsRow.frozenAt HX2.out (m.length * 2)
              have fr1 := World.ownsRow.frozenAt HX2.out (m.length * 2 + 1)
              have hst1 := (World.ownsRow.stored HX2.out (m.length * 2) (.int .i64 z1)).1
              have hst := Lib.hid (World.ownsRow.stored hst1 (m.length * 2 + 1) (.int .i64 z2)).1
              clear hml hst1 oW oN
              go_wp2
              go_roundw
              case rel => exact ⟨k + 1, by omega, by go_num, by rw [hS2.out, List.length_append, List.length_singleton, ← flatP_set2 m (x, y) (z1, z2)]; exact hst.out, (BX.setCell (by show w.heap.size ≤ g; omega) _).setCell (by show w.heap.size ≤ g; omega) _⟩
              case measure => simp [intOf]; omega
    · have hkl : k = l.length := by omega
      have hd : ¬ (k : Int) < l.length := by omega
      have hT : l.take k = l := List.take_of_length_le (by omega)
      rw [hT] at hown
      have HX := Lib.hid hown
      have hle := mjn_len l
      clear hown hT hkl
      go_wp2
      go_ret
      exact ⟨_, rfl, RdP.of_own HX.out (by omega), hbr⟩
end Go.Proofs.YtnbeopkpkagjmaaGreat
