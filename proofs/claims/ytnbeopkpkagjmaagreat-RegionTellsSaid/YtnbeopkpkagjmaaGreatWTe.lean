import Derived.Test.YtnbeopkpkagjmaaGreatRAw
import Derived.Test.YtnbeopkpkagjmaaGreatRRc
import Derived.Test.YtnbeopkpkagjmaaGreatRFo
import Derived.Test.YtnbeopkpkagjmaaGreatRTw
import Derived.Test.YtnbeopkpkagjmaaGreatSA
import Derived.WalkKit
import Derived.WalkSpells
import Derived.WalkLawsBesides
import Derived.Deep.QuietTactic
import Derived.BigQuiet
import Derived.Handy
import Derived.Lib.Hide
/-
  The walk of the statement RegionTells. Conditions: none. (Written by mkRgW.py.)
-/
namespace Go.Proofs.YtnbeopkpkagjmaaGreat
set_option maxRecDepth 100000
set_option linter.unusedVariables false
set_option linter.unusedSimpArgs false
open Go.RowKit

set_option maxRecDepth 100000 in
set_option maxHeartbeats 6400000 in
theorem law_tells (va : Value) (a : List Rc) (x s : Int) (w : World) (La : Nat) (hva : RdR w La w.heap.size va a) :
    Calls Tryz.prog 3 #[va, .int .i64 x, .int .i64 s] w fun e w' => e = .returned (.bool true) ∧ Below w.heap.size w w' := by
  have Ha := Lib.hid hva
  obtain ⟨Aa, ca, rfl, _, _⟩ := hva
  by_cases hbiga : (a.length : Int) > 12
  · have hbda : decide ((a.length : Int) > 12) = true := by simp; omega
    go_enter Tryz.func3, Tryz.ntmps3
    go_wp2_with fail
    refine (awake_any _).mono ?_
    rintro e w1 ⟨rfl, hb1⟩
    go_wp2
    go_ret
    exact ⟨rfl, hb1⟩
  have hla : a.length ≤ 12 := by omega
  have hbda : decide ((a.length : Int) > 12) = false := by simp; omega
  go_enter Tryz.func3, Tryz.ntmps3
  have m1 := ofR_len12 hla
  have hbb : ∀ X : Bool, (X == X) = true := fun X => by cases X <;> rfl
  have hb1 := hbb (rgV a)
  have hb2 := hbb (memR a x s)
  go_wp2_with fail
  have hx1 := pValid_any _ a _ _ Ha.out (by omega)
  with_reducible refine hx1.mono ?_
  rintro e w1 ⟨rfl, hb1⟩
  clear hx1
  replace Ha := Lib.hid (Ha.out.step hb1 (Nat.le_refl _))
  have Bw1 := hb1
  have Zw1 := Bw1.size
  clear hb1
  go_wp2_with fail
  have hx2 := rValidR_any _ a _ _ Ha.out (by omega) (by omega)
  with_reducible refine hx2.mono ?_
  rintro e w2 ⟨rfl, hb2⟩
  clear hx2
  replace Ha := Lib.hid (Ha.out.step hb2 (Nat.le_refl _))
  have Bw2 := Bw1.trans (hb2.mono Zw1)
  have Zw2 := Bw2.size
  clear hb2
  go_wp2_with fail
  have hx3 := pMemR_any _ a x s _ _ Ha.out
  with_reducible refine hx3.mono ?_
  rintro e w3 ⟨rfl, hb3⟩
  clear hx3
  replace Ha := Lib.hid (Ha.out.step hb3 (Nat.le_refl _))
  have Bw3 := Bw2.trans (hb3.mono Zw2)
  have Zw3 := Bw3.size
  clear hb3
  go_wp2_with fail
  have hx4 := rMemR_any _ a x s _ _ Ha.out
  with_reducible refine hx4.mono ?_
  rintro e w4 ⟨rfl, hb4⟩
  clear hx4
  replace Ha := Lib.hid (Ha.out.step hb4 (Nat.le_refl _))
  have Bw4 := Bw3.trans (hb4.mono Zw3)
  have Zw4 := Bw4.size
  clear hb4
  go_wp2_with fail
  have hx5 := qSlice_any _ a s _ _ Ha.out (by omega)
  with_reducible refine hx5.mono ?_
  rintro e w5 ⟨v5, rfl, hr5, hb5⟩
  clear hx5
  replace Ha := Lib.hid (Ha.out.step hb5 (Nat.le_refl _))
  have Bw5 := Bw4.trans (hb5.mono Zw4)
  have Zw5 := Bw5.size
  have H5 := Lib.hid hr5
  obtain ⟨A5, c5, rfl, _, _⟩ := hr5
  clear hb5
  go_wp2_with fail
  have hx6 := rSliceR_any _ a s _ _ Ha.out (by omega)
  with_reducible refine hx6.mono ?_
  rintro e w6 ⟨v6, rfl, hr6, hb6⟩
  clear hx6
  replace Ha := Lib.hid (Ha.out.step hb6 (Nat.le_refl _))
  replace H5 := Lib.hid (H5.out.step hb6 (Nat.le_refl _))
  have Bw6 := Bw5.trans (hb6.mono Zw5)
  have Zw6 := Bw6.size
  have H6 := Lib.hid hr6
  obtain ⟨A6, c6, rfl, _, _⟩ := hr6
  clear hb6
  go_wp2_with fail
  have hx7 := sameP_any _ _ _ _ _ _ _ H5.out H6.out
  rw [decide_eq_true rfl] at hx7
  with_reducible refine hx7.mono ?_
  rintro e w7 ⟨rfl, hb7⟩
  clear hx7
  replace Ha := Lib.hid (Ha.out.step hb7 (Nat.le_refl _))
  replace H5 := Lib.hid (H5.out.step hb7 (Nat.le_refl _))
  replace H6 := Lib.hid (H6.out.step hb7 (Nat.le_refl _))
  have Bw7 := Bw6.trans (hb7.mono Zw6)
  have Zw7 := Bw7.size
  clear hb7
  clear H5
  clear H6
  go_wp2_with fail
  have hx8 := qSection_any _ a x _ _ Ha.out (by omega)
  with_reducible refine hx8.mono ?_
  rintro e w8 ⟨v8, rfl, hr8, hb8⟩
  clear hx8
  replace Ha := Lib.hid (Ha.out.step hb8 (Nat.le_refl _))
  have Bw8 := Bw7.trans (hb8.mono Zw7)
  have Zw8 := Bw8.size
  have H8 := Lib.hid hr8
  obtain ⟨A8, c8, rfl, _, _⟩ := hr8
  clear hb8
  go_wp2_with fail
  have hx9 := rSectionR_any _ a x _ _ Ha.out (by omega)
  with_reducible refine hx9.mono ?_
  rintro e w9 ⟨v9, rfl, hr9, hb9⟩
  clear hx9
  replace Ha := Lib.hid (Ha.out.step hb9 (Nat.le_refl _))
  replace H8 := Lib.hid (H8.out.step hb9 (Nat.le_refl _))
  have Bw9 := Bw8.trans (hb9.mono Zw8)
  have Zw9 := Bw9.size
  have H9 := Lib.hid hr9
  obtain ⟨A9, c9, rfl, _, _⟩ := hr9
  clear hb9
  go_wp2_with fail
  have hx10 := sameP_any _ _ _ _ _ _ _ H8.out H9.out
  rw [decide_eq_true rfl] at hx10
  with_reducible refine hx10.mono ?_
  rintro e w10 ⟨rfl, hb10⟩
  clear hx10
  replace Ha := Lib.hid (Ha.out.step hb10 (Nat.le_refl _))
  replace H8 := Lib.hid (H8.out.step hb10 (Nat.le_refl _))
  replace H9 := Lib.hid (H9.out.step hb10 (Nat.le_refl _))
  have Bw10 := Bw9.trans (hb10.mono Zw9)
  have Zw10 := Bw10.size
  clear hb10
  clear H8
  clear H9
  go_wp2_with fail
  have hx11 := awake_any w10
  with_reducible refine hx11.mono ?_
  rintro e w11 ⟨rfl, hb11⟩
  clear hx11
  replace Ha := Lib.hid (Ha.out.step hb11 (Nat.le_refl _))
  have Bw11 := Bw10.trans (hb11.mono Zw10)
  have Zw11 := Bw11.size
  clear hb11
  go_wp2
  go_ret
  exact ⟨rfl, Bw11⟩
end Go.Proofs.YtnbeopkpkagjmaaGreat
