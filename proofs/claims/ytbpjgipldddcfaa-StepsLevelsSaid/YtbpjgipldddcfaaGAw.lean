import Derived.Test.YtbpjgipldddcfaaGLa
import Derived.WalkKit
import Derived.WalkSpells
import Derived.WalkLawsBesides
import Derived.Deep.QuietTactic
import Derived.BigQuiet
import Derived.Handy
import Derived.Lib.Hide
/-
  Contract of the statements' own awake: the chapter's examples. Conditions: none.
-/
namespace Go.Proofs.Ytbpjgipldddcfaa
set_option maxRecDepth 100000
set_option linter.unusedVariables false
set_option linter.unusedSimpArgs false
open Go.RowKit

theorem rdP_block (w : World) (t : TypeId) (P : List (Int × Int)) (hl : P.length ≤ 9223372036854775807) : RdP (w.alloc (.cells (flatP P).toArray t)) w.heap.size (w.alloc (.cells (flatP P).toArray t)).heap.size (.slice (some ⟨w.heap.size, 0, none⟩) P.length P.length) P := by
  have o := Own.new w t (flatP P).toArray
  refine ⟨_, P.length, rfl, hl, Nat.le_refl _, fun k p hk => ⟨_, rfl, Nat.le_refl _, o.lt, ?_⟩⟩
  obtain ⟨h1, h2⟩ := flatP_get P k p hk
  rw [plain_add]
  exact ⟨(o.cell _).trans (by simpa using h1), (o.cell _).trans (by simpa using h2)⟩
theorem rdB_block (w : World) (t : TypeId) (P : List Pc) (hl : P.length ≤ 9223372036854775807) : RdB (w.alloc (.cells (flatB P).toArray t)) w.heap.size (w.alloc (.cells (flatB P).toArray t)).heap.size (.slice (some ⟨w.heap.size, 0, none⟩) P.length P.length) P := by
  have o := Own.new w t (flatB P).toArray
  refine ⟨_, P.length, rfl, hl, fun k p hk => ⟨_, rfl, Nat.le_refl _, o.lt, ?_⟩⟩
  obtain ⟨h1, h2, h3⟩ := flatB_get P k p hk
  rw [plain_add, plain_add, plain_add]
  exact ⟨(o.cell _).trans (by simpa using h1), (o.cell _).trans (by simpa using h2), (o.cell _).trans (by simpa using h3)⟩
theorem ex_of : ofR [((0 : Int), (5 : Int), (1 : Int)), (3, 8, 2)] = [(0, 1), (3, 3), (5, 2), (8, 0)] := by kernel_rfl
theorem ex_sub : cmbL 2 [(0, 1)] [(0, 1), (3, 3), (5, 2), (8, 0)] = [(0, 0), (3, -2), (5, -1), (8, 1)] := by kernel_rfl
theorem ex_lev : levL [(0, 1), (3, 3), (5, 2), (8, 0)] = [(0, 8), (3, 5), (3, 8)] := by kernel_rfl
theorem ex_atl : ofL (hiT 2 [(0, 1), (3, 3), (5, 2), (8, 0)] 4) = [(3, 8)] := by kernel_rfl
theorem ex_clip : cmbL 4 [(0, 0), (3, -2), (5, -1), (8, 1)] [(0, 0)] = [(0, 0), (8, 1)] := by kernel_rfl
theorem ex_at : atV [(0, 1), (3, 3), (5, 2), (8, 0)] 4 = 3 := by kernel_rfl
theorem ex_v1 : stV [(0, 1), (3, 3), (5, 2), (8, 0)] = true := by kernel_rfl
theorem ex_v2 : stV [(0, 0), (3, -2), (5, -1), (8, 1)] = true := by kernel_rfl
set_option maxHeartbeats 800000 in
theorem sample_any (w : World) : Calls Try.prog 17 #[] w (RetPers w [(0, 1), (3, 3), (5, 2), (8, 0)]) := by
  have hr := Lib.hid (rdB_block w 44 [((0 : Int), (5 : Int), (1 : Int)), (3, 8, 2)] (by decide))
  have hb0 : Below w.heap.size w (w.alloc (.cells (flatB [((0 : Int), (5 : Int), (1 : Int)), (3, 8, 2)]).toArray 44)) := (by (repeat' (first | (with_reducible exact Below.refl _ _) | (with_reducible assumption) | (with_reducible refine Below.alloc ?_ ?_ _) | (with_reducible refine Below.drew ?_) | (with_reducible refine Below.setCell ?_ ?_ _) | (with_reducible refine Below.trans ?_ (Below.mono (by assumption) ?_)) | go_size)))
  have hx := pStOf_any _ _ _ _ hr.out (by decide)
  rw [ex_of] at hx
  have HX := Lib.hid hx
  clear hx hr
  go_enter Try.func17, Try.ntmps17
  go_wp2_with fail
  refine HX.out.mono ?_
  rintro e w1 ⟨v1, rfl, hr1, hb1⟩
  have hz := hb0.size
  go_wp2
  go_ret
  exact ⟨_, rfl, hr1.more (Nat.le_refl _) hz, hb0.trans (hb1.mono hz)⟩

set_option maxRecDepth 100000 in
set_option maxHeartbeats 6400000 in
theorem awake_any (w : World) : Calls Try.prog 6 #[] w fun e w' => e = .returned (.bool true) ∧ Below w.heap.size w w' := by
  go_enter Try.func6, Try.ntmps6
  have hx1 := sample_any w
  go_wp2_with fail
  refine hx1.mono ?_
  rintro e w1 ⟨v1, rfl, hr1, hb1⟩
  clear hx1
  have Bw1 := hb1
  have Zw1 := Bw1.size
  have H1 := Lib.hid hr1
  obtain ⟨A1, c1, rfl, _, _⟩ := hr1
  clear hb1
  have bW2 : Below w1.heap.size w1 (w1.alloc (.cells #[.int .i64 0, .int .i64 1] 37)) := (Below.refl _ _).alloc (Nat.le_refl _) _
  have K2 : Hid (RdP (w1.alloc (.cells #[.int .i64 0, .int .i64 1] 37)) w1.heap.size (w1.alloc (.cells #[.int .i64 0, .int .i64 1] 37)).heap.size (.slice (some ⟨w1.heap.size, 0, none⟩) 1 1) [(0, 1)]) := Lib.hid (rdP_block w1 37 [(0, 1)] (by decide))
  replace H1 := Lib.hid (H1.out.step bW2 (Nat.le_refl _))
  have BB2 := Bw1.trans (bW2.mono Zw1)
  have ZZ2 := BB2.size
  have hx3 := pSub_any _ _ _ _ _ _ _ K2.out H1.out (by decide) ex_v1 (by decide) (by decide)
  rw [ex_sub] at hx3
  go_wp2_with fail
  refine hx3.mono ?_
  rintro e w3 ⟨v3, rfl, hr3, hb3⟩
  clear hx3
  replace H1 := Lib.hid (H1.out.step hb3 (Nat.le_refl _))
  replace K2 := Lib.hid (K2.out.step hb3 (Nat.le_refl _))
  have Bw3 := BB2.trans (hb3.mono ZZ2)
  have Zw3 := Bw3.size
  have H3 := Lib.hid hr3
  obtain ⟨A3, c3, rfl, _, _⟩ := hr3
  clear hb3
  clear K2
  have hx4 := pLevels_any _ _ _ _ H1.out (by decide) (by rw [ex_lev]; decide)
  rw [ex_lev] at hx4
  go_wp2_with fail
  refine hx4.mono ?_
  rintro e w4 ⟨v4, rfl, hr4, hb4⟩
  clear hx4
  replace H1 := Lib.hid (H1.out.step hb4 (Nat.le_refl _))
  replace H3 := Lib.hid (H3.out.step hb4 (Nat.le_refl _))
  have Bw4 := Bw3.trans (hb4.mono Zw3)
  have Zw4 := Bw4.size
  have H4 := Lib.hid hr4
  obtain ⟨A4, c4, rfl, _, _⟩ := hr4
  clear hb4
  have bW5 : Below w4.heap.size w4 (w4.alloc (.cells #[.int .i64 0, .int .i64 1, .int .i64 3, .int .i64 3, .int .i64 5, .int .i64 2, .int .i64 8, .int .i64 0] 37)) := (Below.refl _ _).alloc (Nat.le_refl _) _
  have K5 : Hid (RdP (w4.alloc (.cells #[.int .i64 0, .int .i64 1, .int .i64 3, .int .i64 3, .int .i64 5, .int .i64 2, .int .i64 8, .int .i64 0] 37)) w4.heap.size (w4.alloc (.cells #[.int .i64 0, .int .i64 1, .int .i64 3, .int .i64 3, .int .i64 5, .int .i64 2, .int .i64 8, .int .i64 0] 37)).heap.size (.slice (some ⟨w4.heap.size, 0, none⟩) 4 4) [(0, 1), (3, 3), (5, 2), (8, 0)]) := Lib.hid (rdP_block w4 37 [(0, 1), (3, 3), (5, 2), (8, 0)] (by decide))
  replace H1 := Lib.hid (H1.out.step bW5 (Nat.le_refl _))
  replace H3 := Lib.hid (H3.out.step bW5 (Nat.le_refl _))
  replace H4 := Lib.hid (H4.out.step bW5 (Nat.le_refl _))
  have BB5 := Bw4.trans (bW5.mono Zw4)
  have ZZ5 := BB5.size
  have hx6 := sameT_any _ _ _ _ _ _ _ H1.out K5.out
  rw [decide_eq_true rfl] at hx6
  go_wp2_with fail
  refine hx6.mono ?_
  rintro e w6 ⟨rfl, hb6⟩
  clear hx6
  replace H1 := Lib.hid (H1.out.step hb6 (Nat.le_refl _))
  replace H3 := Lib.hid (H3.out.step hb6 (Nat.le_refl _))
  replace H4 := Lib.hid (H4.out.step hb6 (Nat.le_refl _))
  replace K5 := Lib.hid (K5.out.step hb6 (Nat.le_refl _))
  have Bw6 := BB5.trans (hb6.mono ZZ5)
  have Zw6 := Bw6.size
  clear hb6
  clear K5
  have bW7 : Below w6.heap.size w6 (w6.alloc (.cells #[.int .i64 0, .int .i64 8, .int .i64 3, .int .i64 5, .int .i64 3, .int .i64 8] 33)) := (Below.refl _ _).alloc (Nat.le_refl _) _
  have K7 : Hid (RdP (w6.alloc (.cells #[.int .i64 0, .int .i64 8, .int .i64 3, .int .i64 5, .int .i64 3, .int .i64 8] 33)) w6.heap.size (w6.alloc (.cells #[.int .i64 0, .int .i64 8, .int .i64 3, .int .i64 5, .int .i64 3, .int .i64 8] 33)).heap.size (.slice (some ⟨w6.heap.size, 0, none⟩) 3 3) [(0, 8), (3, 5), (3, 8)]) := Lib.hid (rdP_block w6 33 [(0, 8), (3, 5), (3, 8)] (by decide))
  replace H1 := Lib.hid (H1.out.step bW7 (Nat.le_refl _))
  replace H3 := Lib.hid (H3.out.step bW7 (Nat.le_refl _))
  replace H4 := Lib.hid (H4.out.step bW7 (Nat.le_refl _))
  have BB7 := Bw6.trans (bW7.mono Zw6)
  have ZZ7 := BB7.size
  have hx8 := sameP_any _ _ _ _ _ _ _ H4.out K7.out
  rw [decide_eq_true rfl] at hx8
  go_wp2_with fail
  refine hx8.mono ?_
  rintro e w8 ⟨rfl, hb8⟩
  clear hx8
  replace H1 := Lib.hid (H1.out.step hb8 (Nat.le_refl _))
  replace H3 := Lib.hid (H3.out.step hb8 (Nat.le_refl _))
  replace H4 := Lib.hid (H4.out.step hb8 (Nat.le_refl _))
  replace K7 := Lib.hid (K7.out.step hb8 (Nat.le_refl _))
  have Bw8 := BB7.trans (hb8.mono ZZ7)
  have Zw8 := Bw8.size
  clear hb8
  clear K7
  clear H4
  have hx9 := pAtLeast_any _ _ 2 _ _ H1.out (by decide)
  rw [show ([((0 : Int), (1 : Int)), (3, 3), (5, 2), (8, 0)] : List (Int × Int)).length = 4 from rfl, ex_atl] at hx9
  go_wp2_with fail
  refine hx9.mono ?_
  rintro e w9 ⟨v9, rfl, hr9, hb9⟩
  clear hx9
  replace H1 := Lib.hid (H1.out.step hb9 (Nat.le_refl _))
  replace H3 := Lib.hid (H3.out.step hb9 (Nat.le_refl _))
  have Bw9 := Bw8.trans (hb9.mono Zw8)
  have Zw9 := Bw9.size
  have H9 := Lib.hid hr9
  obtain ⟨A9, c9, rfl, _, _⟩ := hr9
  clear hb9
  have bW10 : Below w9.heap.size w9 (w9.alloc (.cells #[.int .i64 3, .int .i64 8] 33)) := (Below.refl _ _).alloc (Nat.le_refl _) _
  have K10 : Hid (RdP (w9.alloc (.cells #[.int .i64 3, .int .i64 8] 33)) w9.heap.size (w9.alloc (.cells #[.int .i64 3, .int .i64 8] 33)).heap.size (.slice (some ⟨w9.heap.size, 0, none⟩) 1 1) [(3, 8)]) := Lib.hid (rdP_block w9 33 [(3, 8)] (by decide))
  replace H1 := Lib.hid (H1.out.step bW10 (Nat.le_refl _))
  replace H3 := Lib.hid (H3.out.step bW10 (Nat.le_refl _))
  replace H9 := Lib.hid (H9.out.step bW10 (Nat.le_refl _))
  have BB10 := Bw9.trans (bW10.mono Zw9)
  have ZZ10 := BB10.size
  have hx11 := sameP_any _ _ _ _ _ _ _ H9.out K10.out
  rw [decide_eq_true rfl] at hx11
  go_wp2_with fail
  refine hx11.mono ?_
  rintro e w11 ⟨rfl, hb11⟩
  clear hx11
  replace H1 := Lib.hid (H1.out.step hb11 (Nat.le_refl _))
  replace H3 := Lib.hid (H3.out.step hb11 (Nat.le_refl _))
  replace H9 := Lib.hid (H9.out.step hb11 (Nat.le_refl _))
  replace K10 := Lib.hid (K10.out.step hb11 (Nat.le_refl _))
  have Bw11 := BB10.trans (hb11.mono ZZ10)
  have Zw11 := Bw11.size
  clear hb11
  clear K10
  clear H9
  have bW12 : Below w11.heap.size w11 (w11.alloc (.cells #[.int .i64 0, .int .i64 0, .int .i64 3, .int .i64 (-2), .int .i64 5, .int .i64 (-1), .int .i64 8, .int .i64 1] 37)) := (Below.refl _ _).alloc (Nat.le_refl _) _
  have K12 : Hid (RdP (w11.alloc (.cells #[.int .i64 0, .int .i64 0, .int .i64 3, .int .i64 (-2), .int .i64 5, .int .i64 (-1), .int .i64 8, .int .i64 1] 37)) w11.heap.size (w11.alloc (.cells #[.int .i64 0, .int .i64 0, .int .i64 3, .int .i64 (-2), .int .i64 5, .int .i64 (-1), .int .i64 8, .int .i64 1] 37)).heap.size (.slice (some ⟨w11.heap.size, 0, none⟩) 4 4) [(0, 0), (3, -2), (5, -1), (8, 1)]) := Lib.hid (rdP_block w11 37 [(0, 0), (3, -2), (5, -1), (8, 1)] (by decide))
  replace H1 := Lib.hid (H1.out.step bW12 (Nat.le_refl _))
  replace H3 := Lib.hid (H3.out.step bW12 (Nat.le_refl _))
  have BB12 := Bw11.trans (bW12.mono Zw11)
  have ZZ12 := BB12.size
  have hx13 := sameT_any _ _ _ _ _ _ _ H3.out K12.out
  rw [decide_eq_true rfl] at hx13
  go_wp2_with fail
  refine hx13.mono ?_
  rintro e w13 ⟨rfl, hb13⟩
  clear hx13
  replace H1 := Lib.hid (H1.out.step hb13 (Nat.le_refl _))
  replace H3 := Lib.hid (H3.out.step hb13 (Nat.le_refl _))
  replace K12 := Lib.hid (K12.out.step hb13 (Nat.le_refl _))
  have Bw13 := BB12.trans (hb13.mono ZZ12)
  have Zw13 := Bw13.size
  clear hb13
  clear K12
  have hx14 := pClip_any _ _ _ _ H3.out ex_v2 (by decide)
  rw [ex_clip] at hx14
  go_wp2_with fail
  refine hx14.mono ?_
  rintro e w14 ⟨v14, rfl, hr14, hb14⟩
  clear hx14
  replace H1 := Lib.hid (H1.out.step hb14 (Nat.le_refl _))
  replace H3 := Lib.hid (H3.out.step hb14 (Nat.le_refl _))
  have Bw14 := Bw13.trans (hb14.mono Zw13)
  have Zw14 := Bw14.size
  have H14 := Lib.hid hr14
  obtain ⟨A14, c14, rfl, _, _⟩ := hr14
  clear hb14
  clear H3
  have bW15 : Below w14.heap.size w14 (w14.alloc (.cells #[.int .i64 0, .int .i64 0, .int .i64 8, .int .i64 1] 37)) := (Below.refl _ _).alloc (Nat.le_refl _) _
  have K15 : Hid (RdP (w14.alloc (.cells #[.int .i64 0, .int .i64 0, .int .i64 8, .int .i64 1] 37)) w14.heap.size (w14.alloc (.cells #[.int .i64 0, .int .i64 0, .int .i64 8, .int .i64 1] 37)).heap.size (.slice (some ⟨w14.heap.size, 0, none⟩) 2 2) [(0, 0), (8, 1)]) := Lib.hid (rdP_block w14 37 [(0, 0), (8, 1)] (by decide))
  replace H1 := Lib.hid (H1.out.step bW15 (Nat.le_refl _))
  replace H14 := Lib.hid (H14.out.step bW15 (Nat.le_refl _))
  have BB15 := Bw14.trans (bW15.mono Zw14)
  have ZZ15 := BB15.size
  have hx16 := sameT_any _ _ _ _ _ _ _ H14.out K15.out
  rw [decide_eq_true rfl] at hx16
  go_wp2_with fail
  refine hx16.mono ?_
  rintro e w16 ⟨rfl, hb16⟩
  clear hx16
  replace H1 := Lib.hid (H1.out.step hb16 (Nat.le_refl _))
  replace H14 := Lib.hid (H14.out.step hb16 (Nat.le_refl _))
  replace K15 := Lib.hid (K15.out.step hb16 (Nat.le_refl _))
  have Bw16 := BB15.trans (hb16.mono ZZ15)
  have Zw16 := Bw16.size
  clear hb16
  clear K15
  clear H14
  have hx17 := pAt_any _ _ 4 _ _ H1.out (stV_srt ex_v1) (by decide)
  rw [ex_at] at hx17
  go_wp2_with fail
  refine hx17.mono ?_
  rintro e w17 ⟨rfl, hb17⟩
  clear hx17
  replace H1 := Lib.hid (H1.out.step hb17 (Nat.le_refl _))
  have Bw17 := Bw16.trans (hb17.mono Zw16)
  have Zw17 := Bw17.size
  clear hb17
  go_wp2
  go_ret
  exact ⟨rfl, Bw17⟩
end Go.Proofs.Ytbpjgipldddcfaa
