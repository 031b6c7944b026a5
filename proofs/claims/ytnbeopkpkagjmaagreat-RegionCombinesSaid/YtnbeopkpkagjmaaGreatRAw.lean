import Derived.Test.YtnbeopkpkagjmaaGreatRB
import Derived.WalkKit
import Derived.WalkSpells
import Derived.WalkLawsBesides
import Derived.Deep.QuietTactic
import Derived.BigQuiet
import Derived.Handy
import Derived.Lib.Hide
import Derived.Test.YtnbeopkpkagjmaaGreatRU
import Derived.Test.YtnbeopkpkagjmaaGreatRD
/-
  The examples of the chapter. Conditions: none.
-/
namespace Go.Proofs.YtnbeopkpkagjmaaGreat
set_option maxRecDepth 100000
set_option linter.unusedVariables false
set_option linter.unusedSimpArgs false
open Go.RowKit

def rcX (a b c d : Int) : Rc := ((a, b), (c, d))
theorem ex1 : ofR [rcX 0 4 0 5, rcX 4 6 0 5] = [rcX 0 6 0 5] := by decide +kernel
theorem ex2 : ofR [rcX 0 4 0 5, rcX 2 6 3 8] = [rcX 0 4 0 3, rcX 0 6 3 5, rcX 2 6 5 8] := by decide +kernel
def dX : List Rc := [rcX 0 6 0 1, rcX 0 2 1 2, rcX 3 6 1 2, rcX 0 6 2 4]
theorem ex3 : cmbR fSub [rcX 0 6 0 4] [rcX 2 3 1 2] = dX := by decide +kernel
theorem ex4 : secR dX 2 = [(0, 1), (2, 4)] := by decide +kernel
set_option maxHeartbeats 800000 in
theorem rect_any (a b c d : Int) (w : World) : Calls Tryz.prog 25 #[.int .i64 a, .int .i64 b, .int .i64 c, .int .i64 d] w fun e w' => e = .returned (.agg #[.int .i64 a, .int .i64 b, .int .i64 c, .int .i64 d]) ∧ Below w.heap.size w w' := by
  go_enter Tryz.func25, Tryz.ntmps25
  go_wp2
  refine bodyPost_ret (v := .agg #[.int .i64 a, .int .i64 b, .int .i64 c, .int .i64 d]) (by simp [results, Tryz.results25, go_sem, *]) rfl ⟨rfl, ?_⟩
  (repeat' (first | (with_reducible exact Below.refl _ _) | (with_reducible assumption) | (with_reducible refine Below.alloc ?_ ?_ _) | (with_reducible refine Below.drew ?_) | (with_reducible refine Below.setCell ?_ ?_ _) | (with_reducible refine Below.trans ?_ (Below.mono (by assumption) ?_)) | go_size))
end Go.Proofs.YtnbeopkpkagjmaaGreat
/-
  The statements' own awake: the chapter's examples. Conditions: none. (Written by mkRgW.py.)
-/
namespace Go.Proofs.YtnbeopkpkagjmaaGreat
set_option maxRecDepth 100000
set_option linter.unusedVariables false
set_option linter.unusedSimpArgs false
open Go.RowKit

set_option maxRecDepth 100000 in
set_option maxHeartbeats 6400000 in
theorem awake_any (w : World) : Calls Tryz.prog 6 #[] w fun e w' => e = .returned (.bool true) ∧ Below w.heap.size w w' := by
  go_enter Tryz.func6, Tryz.ntmps6
  go_wp2_with fail
  have hx1 := rect_any 0 6 0 4 w
  refine hx1.mono ?_
  rintro e w1 ⟨rfl, hb1⟩
  clear hx1
  have Bw1 := hb1
  have Zw1 := Bw1.size
  clear hb1
  go_wp2_with fail
  have bL2 : Below w1.heap.size w1 (w1.alloc (.cells #[.int .i64 0, .int .i64 6, .int .i64 0, .int .i64 4] 35)) := (Below.refl _ _).alloc (Nat.le_refl _) _
  have hL2 := rdR_lit w1 #[.int .i64 0, .int .i64 6, .int .i64 0, .int .i64 4] [rcX 0 6 0 4] 1 rfl rfl (by decide)
  generalize w1.alloc (.cells #[.int .i64 0, .int .i64 6, .int .i64 0, .int .i64 4] 35) = w2 at *
  have Bw2 := Bw1.trans (bL2.mono Zw1)
  have Zw2 := Bw2.size
  have H2 := Lib.hid hL2
  clear hL2 bL2
  have hx3 := rect_any 2 3 1 2 w2
  refine hx3.mono ?_
  rintro e w3 ⟨rfl, hb3⟩
  clear hx3
  replace H2 := Lib.hid (H2.out.step hb3 (Nat.le_refl _))
  have Bw3 := Bw2.trans (hb3.mono Zw2)
  have Zw3 := Bw3.size
  clear hb3
  go_wp2_with fail
  have bL4 : Below w3.heap.size w3 (w3.alloc (.cells #[.int .i64 2, .int .i64 3, .int .i64 1, .int .i64 2] 35)) := (Below.refl _ _).alloc (Nat.le_refl _) _
  have hL4 := rdR_lit w3 #[.int .i64 2, .int .i64 3, .int .i64 1, .int .i64 2] [rcX 2 3 1 2] 1 rfl rfl (by decide)
  generalize w3.alloc (.cells #[.int .i64 2, .int .i64 3, .int .i64 1, .int .i64 2] 35) = w4 at *
  replace H2 := Lib.hid (H2.out.step bL4 (Nat.le_refl _))
  have Bw4 := Bw3.trans (bL4.mono Zw3)
  have Zw4 := Bw4.size
  have H4 := Lib.hid hL4
  clear hL4 bL4
  have hx5 := qSub_any _ _ _ _ _ _ _ H2.out H4.out (by decide)
  rw [ex3] at hx5
  refine hx5.mono ?_
  rintro e w5 ⟨v5, rfl, hr5, hb5⟩
  clear hx5
  replace H2 := Lib.hid (H2.out.step hb5 (Nat.le_refl _))
  replace H4 := Lib.hid (H4.out.step hb5 (Nat.le_refl _))
  have Bw5 := Bw4.trans (hb5.mono Zw4)
  have Zw5 := Bw5.size
  have H5 := Lib.hid hr5
  obtain ⟨A5, c5, rfl, _, _⟩ := hr5
  clear hb5
  clear H2
  clear H4
  go_wp2_with fail
  have hx6 := rect_any 0 4 0 5 w5
  refine hx6.mono ?_
  rintro e w6 ⟨rfl, hb6⟩
  clear hx6
  replace H5 := Lib.hid (H5.out.step hb6 (Nat.le_refl _))
  have Bw6 := Bw5.trans (hb6.mono Zw5)
  have Zw6 := Bw6.size
  clear hb6
  go_wp2_with fail
  have hx7 := rect_any 4 6 0 5 w6
  refine hx7.mono ?_
  rintro e w7 ⟨rfl, hb7⟩
  clear hx7
  replace H5 := Lib.hid (H5.out.step hb7 (Nat.le_refl _))
  have Bw7 := Bw6.trans (hb7.mono Zw6)
  have Zw7 := Bw7.size
  clear hb7
  go_wp2_with fail
  have bL8 : Below w7.heap.size w7 (w7.alloc (.cells #[.int .i64 0, .int .i64 4, .int .i64 0, .int .i64 5, .int .i64 4, .int .i64 6, .int .i64 0, .int .i64 5] 35)) := (Below.refl _ _).alloc (Nat.le_refl _) _
  have hL8 := rdR_lit w7 #[.int .i64 0, .int .i64 4, .int .i64 0, .int .i64 5, .int .i64 4, .int .i64 6, .int .i64 0, .int .i64 5] [rcX 0 4 0 5, rcX 4 6 0 5] 2 rfl rfl (by decide)
  generalize w7.alloc (.cells #[.int .i64 0, .int .i64 4, .int .i64 0, .int .i64 5, .int .i64 4, .int .i64 6, .int .i64 0, .int .i64 5] 35) = w8 at *
  replace H5 := Lib.hid (H5.out.step bL8 (Nat.le_refl _))
  have Bw8 := Bw7.trans (bL8.mono Zw7)
  have Zw8 := Bw8.size
  have H8 := Lib.hid hL8
  clear hL8 bL8
  have hx9 := qOf_any _ _ _ _ H8.out (by decide)
  rw [ex1] at hx9
  refine hx9.mono ?_
  rintro e w9 ⟨v9, rfl, hr9, hb9⟩
  clear hx9
  replace H5 := Lib.hid (H5.out.step hb9 (Nat.le_refl _))
  replace H8 := Lib.hid (H8.out.step hb9 (Nat.le_refl _))
  have Bw9 := Bw8.trans (hb9.mono Zw8)
  have Zw9 := Bw9.size
  have H9 := Lib.hid hr9
  obtain ⟨A9, c9, rfl, _, _⟩ := hr9
  clear hb9
  clear H8
  go_wp2_with fail
  have hx10 := rect_any 0 6 0 5 w9
  refine hx10.mono ?_
  rintro e w10 ⟨rfl, hb10⟩
  clear hx10
  replace H5 := Lib.hid (H5.out.step hb10 (Nat.le_refl _))
  replace H9 := Lib.hid (H9.out.step hb10 (Nat.le_refl _))
  have Bw10 := Bw9.trans (hb10.mono Zw9)
  have Zw10 := Bw10.size
  clear hb10
  go_wp2_with fail
  have bL11 : Below w10.heap.size w10 (w10.alloc (.cells #[.int .i64 0, .int .i64 6, .int .i64 0, .int .i64 5] 35)) := (Below.refl _ _).alloc (Nat.le_refl _) _
  have hL11 := rdR_lit w10 #[.int .i64 0, .int .i64 6, .int .i64 0, .int .i64 5] [rcX 0 6 0 5] 1 rfl rfl (by decide)
  generalize w10.alloc (.cells #[.int .i64 0, .int .i64 6, .int .i64 0, .int .i64 5] 35) = w11 at *
  replace H5 := Lib.hid (H5.out.step bL11 (Nat.le_refl _))
  replace H9 := Lib.hid (H9.out.step bL11 (Nat.le_refl _))
  have Bw11 := Bw10.trans (bL11.mono Zw10)
  have Zw11 := Bw11.size
  have H11 := Lib.hid hL11
  clear hL11 bL11
  have hx12 := sameR_any _ _ _ _ _ _ _ H9.out H11.out
  rw [decide_eq_true rfl] at hx12
  refine hx12.mono ?_
  rintro e w12 ⟨rfl, hb12⟩
  clear hx12
  replace H5 := Lib.hid (H5.out.step hb12 (Nat.le_refl _))
  replace H9 := Lib.hid (H9.out.step hb12 (Nat.le_refl _))
  replace H11 := Lib.hid (H11.out.step hb12 (Nat.le_refl _))
  have Bw12 := Bw11.trans (hb12.mono Zw11)
  have Zw12 := Bw12.size
  clear hb12
  clear H9
  clear H11
  go_wp2_with fail
  have hx13 := rect_any 0 4 0 5 w12
  refine hx13.mono ?_
  rintro e w13 ⟨rfl, hb13⟩
  clear hx13
  replace H5 := Lib.hid (H5.out.step hb13 (Nat.le_refl _))
  have Bw13 := Bw12.trans (hb13.mono Zw12)
  have Zw13 := Bw13.size
  clear hb13
  go_wp2_with fail
  have hx14 := rect_any 2 6 3 8 w13
  refine hx14.mono ?_
  rintro e w14 ⟨rfl, hb14⟩
  clear hx14
  replace H5 := Lib.hid (H5.out.step hb14 (Nat.le_refl _))
  have Bw14 := Bw13.trans (hb14.mono Zw13)
  have Zw14 := Bw14.size
  clear hb14
  go_wp2_with fail
  have bL15 : Below w14.heap.size w14 (w14.alloc (.cells #[.int .i64 0, .int .i64 4, .int .i64 0, .int .i64 5, .int .i64 2, .int .i64 6, .int .i64 3, .int .i64 8] 35)) := (Below.refl _ _).alloc (Nat.le_refl _) _
  have hL15 := rdR_lit w14 #[.int .i64 0, .int .i64 4, .int .i64 0, .int .i64 5, .int .i64 2, .int .i64 6, .int .i64 3, .int .i64 8] [rcX 0 4 0 5, rcX 2 6 3 8] 2 rfl rfl (by decide)
  generalize w14.alloc (.cells #[.int .i64 0, .int .i64 4, .int .i64 0, .int .i64 5, .int .i64 2, .int .i64 6, .int .i64 3, .int .i64 8] 35) = w15 at *
  replace H5 := Lib.hid (H5.out.step bL15 (Nat.le_refl _))
  have Bw15 := Bw14.trans (bL15.mono Zw14)
  have Zw15 := Bw15.size
  have H15 := Lib.hid hL15
  clear hL15 bL15
  have hx16 := qOf_any _ _ _ _ H15.out (by decide)
  rw [ex2] at hx16
  refine hx16.mono ?_
  rintro e w16 ⟨v16, rfl, hr16, hb16⟩
  clear hx16
  replace H5 := Lib.hid (H5.out.step hb16 (Nat.le_refl _))
  replace H15 := Lib.hid (H15.out.step hb16 (Nat.le_refl _))
  have Bw16 := Bw15.trans (hb16.mono Zw15)
  have Zw16 := Bw16.size
  have H16 := Lib.hid hr16
  obtain ⟨A16, c16, rfl, _, _⟩ := hr16
  clear hb16
  clear H15
  go_wp2_with fail
  have hx17 := rect_any 0 4 0 3 w16
  refine hx17.mono ?_
  rintro e w17 ⟨rfl, hb17⟩
  clear hx17
  replace H5 := Lib.hid (H5.out.step hb17 (Nat.le_refl _))
  replace H16 := Lib.hid (H16.out.step hb17 (Nat.le_refl _))
  have Bw17 := Bw16.trans (hb17.mono Zw16)
  have Zw17 := Bw17.size
  clear hb17
  go_wp2_with fail
  have hx18 := rect_any 0 6 3 5 w17
  refine hx18.mono ?_
  rintro e w18 ⟨rfl, hb18⟩
  clear hx18
  replace H5 := Lib.hid (H5.out.step hb18 (Nat.le_refl _))
  replace H16 := Lib.hid (H16.out.step hb18 (Nat.le_refl _))
  have Bw18 := Bw17.trans (hb18.mono Zw17)
  have Zw18 := Bw18.size
  clear hb18
  go_wp2_with fail
  have hx19 := rect_any 2 6 5 8 w18
  refine hx19.mono ?_
  rintro e w19 ⟨rfl, hb19⟩
  clear hx19
  replace H5 := Lib.hid (H5.out.step hb19 (Nat.le_refl _))
  replace H16 := Lib.hid (H16.out.step hb19 (Nat.le_refl _))
  have Bw19 := Bw18.trans (hb19.mono Zw18)
  have Zw19 := Bw19.size
  clear hb19
  go_wp2_with fail
  have bL20 : Below w19.heap.size w19 (w19.alloc (.cells #[.int .i64 0, .int .i64 4, .int .i64 0, .int .i64 3, .int .i64 0, .int .i64 6, .int .i64 3, .int .i64 5, .int .i64 2, .int .i64 6, .int .i64 5, .int .i64 8] 35)) := (Below.refl _ _).alloc (Nat.le_refl _) _
  have hL20 := rdR_lit w19 #[.int .i64 0, .int .i64 4, .int .i64 0, .int .i64 3, .int .i64 0, .int .i64 6, .int .i64 3, .int .i64 5, .int .i64 2, .int .i64 6, .int .i64 5, .int .i64 8] [rcX 0 4 0 3, rcX 0 6 3 5, rcX 2 6 5 8] 3 rfl rfl (by decide)
  generalize w19.alloc (.cells #[.int .i64 0, .int .i64 4, .int .i64 0, .int .i64 3, .int .i64 0, .int .i64 6, .int .i64 3, .int .i64 5, .int .i64 2, .int .i64 6, .int .i64 5, .int .i64 8] 35) = w20 at *
  replace H5 := Lib.hid (H5.out.step bL20 (Nat.le_refl _))
  replace H16 := Lib.hid (H16.out.step bL20 (Nat.le_refl _))
  have Bw20 := Bw19.trans (bL20.mono Zw19)
  have Zw20 := Bw20.size
  have H20 := Lib.hid hL20
  clear hL20 bL20
  have hx21 := sameR_any _ _ _ _ _ _ _ H16.out H20.out
  rw [decide_eq_true rfl] at hx21
  refine hx21.mono ?_
  rintro e w21 ⟨rfl, hb21⟩
  clear hx21
  replace H5 := Lib.hid (H5.out.step hb21 (Nat.le_refl _))
  replace H16 := Lib.hid (H16.out.step hb21 (Nat.le_refl _))
  replace H20 := Lib.hid (H20.out.step hb21 (Nat.le_refl _))
  have Bw21 := Bw20.trans (hb21.mono Zw20)
  have Zw21 := Bw21.size
  clear hb21
  clear H16
  clear H20
  go_wp2_with fail
  have hx22 := rect_any 0 6 0 1 w21
  refine hx22.mono ?_
  rintro e w22 ⟨rfl, hb22⟩
  clear hx22
  replace H5 := Lib.hid (H5.out.step hb22 (Nat.le_refl _))
  have Bw22 := Bw21.trans (hb22.mono Zw21)
  have Zw22 := Bw22.size
  clear hb22
  go_wp2_with fail
  have hx23 := rect_any 0 2 1 2 w22
  refine hx23.mono ?_
  rintro e w23 ⟨rfl, hb23⟩
  clear hx23
  replace H5 := Lib.hid (H5.out.step hb23 (Nat.le_refl _))
  have Bw23 := Bw22.trans (hb23.mono Zw22)
  have Zw23 := Bw23.size
  clear hb23
  go_wp2_with fail
  have hx24 := rect_any 3 6 1 2 w23
  refine hx24.mono ?_
  rintro e w24 ⟨rfl, hb24⟩
  clear hx24
  replace H5 := Lib.hid (H5.out.step hb24 (Nat.le_refl _))
  have Bw24 := Bw23.trans (hb24.mono Zw23)
  have Zw24 := Bw24.size
  clear hb24
  go_wp2_with fail
  have hx25 := rect_any 0 6 2 4 w24
  refine hx25.mono ?_
  rintro e w25 ⟨rfl, hb25⟩
  clear hx25
  replace H5 := Lib.hid (H5.out.step hb25 (Nat.le_refl _))
  have Bw25 := Bw24.trans (hb25.mono Zw24)
  have Zw25 := Bw25.size
  clear hb25
  go_wp2_with fail
  have bL26 : Below w25.heap.size w25 (w25.alloc (.cells #[.int .i64 0, .int .i64 6, .int .i64 0, .int .i64 1, .int .i64 0, .int .i64 2, .int .i64 1, .int .i64 2, .int .i64 3, .int .i64 6, .int .i64 1, .int .i64 2, .int .i64 0, .int .i64 6, .int .i64 2, .int .i64 4] 35)) := (Below.refl _ _).alloc (Nat.le_refl _) _
  have hL26 := rdR_lit w25 #[.int .i64 0, .int .i64 6, .int .i64 0, .int .i64 1, .int .i64 0, .int .i64 2, .int .i64 1, .int .i64 2, .int .i64 3, .int .i64 6, .int .i64 1, .int .i64 2, .int .i64 0, .int .i64 6, .int .i64 2, .int .i64 4] dX 4 rfl rfl (by decide)
  generalize w25.alloc (.cells #[.int .i64 0, .int .i64 6, .int .i64 0, .int .i64 1, .int .i64 0, .int .i64 2, .int .i64 1, .int .i64 2, .int .i64 3, .int .i64 6, .int .i64 1, .int .i64 2, .int .i64 0, .int .i64 6, .int .i64 2, .int .i64 4] 35) = w26 at *
  replace H5 := Lib.hid (H5.out.step bL26 (Nat.le_refl _))
  have Bw26 := Bw25.trans (bL26.mono Zw25)
  have Zw26 := Bw26.size
  have H26 := Lib.hid hL26
  clear hL26 bL26
  have hx27 := sameR_any _ _ _ _ _ _ _ H5.out H26.out
  rw [decide_eq_true rfl] at hx27
  refine hx27.mono ?_
  rintro e w27 ⟨rfl, hb27⟩
  clear hx27
  replace H5 := Lib.hid (H5.out.step hb27 (Nat.le_refl _))
  replace H26 := Lib.hid (H26.out.step hb27 (Nat.le_refl _))
  have Bw27 := Bw26.trans (hb27.mono Zw26)
  have Zw27 := Bw27.size
  clear hb27
  clear H26
  go_wp2_with fail
  have hx28 := qSection_any _ _ 2 _ _ H5.out (by decide)
  rw [ex4] at hx28
  refine hx28.mono ?_
  rintro e w28 ⟨v28, rfl, hr28, hb28⟩
  clear hx28
  replace H5 := Lib.hid (H5.out.step hb28 (Nat.le_refl _))
  have Bw28 := Bw27.trans (hb28.mono Zw27)
  have Zw28 := Bw28.size
  have H28 := Lib.hid hr28
  obtain ⟨A28, c28, rfl, _, _⟩ := hr28
  clear hb28
  clear H5
  go_wp2_with fail
  have bL29 : Below w28.heap.size w28 (w28.alloc (.cells #[.int .i64 0, .int .i64 1, .int .i64 2, .int .i64 4] 33)) := (Below.refl _ _).alloc (Nat.le_refl _) _
  have hL29 := rdP_lit w28 #[.int .i64 0, .int .i64 1, .int .i64 2, .int .i64 4] [(0, 1), (2, 4)] 2 rfl rfl (by decide)
  generalize w28.alloc (.cells #[.int .i64 0, .int .i64 1, .int .i64 2, .int .i64 4] 33) = w29 at *
  replace H28 := Lib.hid (H28.out.step bL29 (Nat.le_refl _))
  have Bw29 := Bw28.trans (bL29.mono Zw28)
  have Zw29 := Bw29.size
  have H29 := Lib.hid hL29
  clear hL29 bL29
  have hx30 := sameP_any _ _ _ _ _ _ _ H28.out H29.out
  rw [decide_eq_true rfl] at hx30
  refine hx30.mono ?_
  rintro e w30 ⟨rfl, hb30⟩
  clear hx30
  replace H28 := Lib.hid (H28.out.step hb30 (Nat.le_refl _))
  replace H29 := Lib.hid (H29.out.step hb30 (Nat.le_refl _))
  have Bw30 := Bw29.trans (hb30.mono Zw29)
  have Zw30 := Bw30.size
  clear hb30
  clear H28
  clear H29
  go_wp2
  go_ret
  exact ⟨rfl, Bw30⟩
end Go.Proofs.YtnbeopkpkagjmaaGreat
