import Derived.Test.YtbpjgipldddcfaaGMa
import Derived.Test.YtbpjgipldddcfaaGMe
import Derived.WalkKit
import Derived.WalkSpells
import Derived.WalkLawsBesides
import Derived.Deep.QuietTactic
import Derived.BigQuiet
import Derived.Handy
import Derived.Lib.Hide
/-
  The walk of the statement StepsLevels. Conditions: the list is read anywhere below the heap's end.
-/
namespace Go.Proofs.Ytbpjgipldddcfaa
set_option maxRecDepth 100000
set_option linter.unusedVariables false
set_option linter.unusedSimpArgs false
open Go.RowKit

set_option maxRecDepth 100000 in
set_option maxHeartbeats 12800000 in
theorem law_levels (vl : Value) (l : List (Int × Int)) (t : Int) (w : World) (Ll : Nat) (hvl : RdP w Ll w.heap.size vl l) :
    Calls Try.prog 3 #[vl, .int .i64 t] w fun e w' => e = .returned (.bool true) ∧ Below w.heap.size w w' := by
  have Hl := Lib.hid hvl
  obtain ⟨Al, cl, rfl, _, _⟩ := hvl
  cases hfl : fineL l
  · skip
    go_enter Try.func3, Try.ntmps3
    have hx1 := fine_any _ l _ _ Hl.out
    rw [hfl] at hx1
    go_wp2_with fail
    refine hx1.mono ?_
    rintro e w1 ⟨rfl, hb1⟩
    clear hx1
    replace Hl := Lib.hid (Hl.out.step hb1 (Nat.le_refl _))
    have B1 := hb1
    have Z1 := B1.size
    clear hb1
    have hx2 := awake_any w1
    go_wp2_with fail
    refine hx2.mono ?_
    rintro e w2 ⟨rfl, hb2⟩
    clear hx2
    replace Hl := Lib.hid (Hl.out.step hb2 (Nat.le_refl _))
    have B2 := B1.trans (hb2.mono Z1)
    have Z2 := B2.size
    clear hb2
    go_wp2
    go_ret
    exact ⟨rfl, B2⟩
  obtain ⟨ll, vl⟩ := fineL_iff.1 hfl
  have hof := ofL_hi vl t
  by_cases hg : grt l l.length > 12
  · skip
    go_enter Try.func3, Try.ntmps3
    have hx3 := fine_any _ l _ _ Hl.out
    rw [hfl] at hx3
    go_wp2_with fail
    refine hx3.mono ?_
    rintro e w3 ⟨rfl, hb3⟩
    clear hx3
    replace Hl := Lib.hid (Hl.out.step hb3 (Nat.le_refl _))
    have B3 := hb3
    have Z3 := B3.size
    clear hb3
    have hx4 := pAtLeast_any _ l t _ _ Hl.out (by omega)
    rw [hof] at hx4
    go_wp2_with fail
    refine hx4.mono ?_
    rintro e w4 ⟨v4, rfl, hr4, hb4⟩
    clear hx4
    replace Hl := Lib.hid (Hl.out.step hb4 (Nat.le_refl _))
    have B4 := B3.trans (hb4.mono Z3)
    have Z4 := B4.size
    have H4 := Lib.hid hr4
    obtain ⟨A4, c4, rfl, _, _⟩ := hr4
    clear hb4
    have hx5 := rAtLeast_any _ l t _ _ Hl.out (by omega)
    go_wp2_with fail
    refine hx5.mono ?_
    rintro e w5 ⟨v5, rfl, hr5, hb5⟩
    clear hx5
    replace Hl := Lib.hid (Hl.out.step hb5 (Nat.le_refl _))
    replace H4 := Lib.hid (H4.out.step hb5 (Nat.le_refl _))
    have B5 := B4.trans (hb5.mono Z4)
    have Z5 := B5.size
    have H5 := Lib.hid hr5
    obtain ⟨A5, c5, rfl, _, _⟩ := hr5
    clear hb5
    have hx6 := sameP_any _ _ _ _ _ _ _ H4.out H5.out
    rw [decide_eq_true rfl] at hx6
    go_wp2_with fail
    refine hx6.mono ?_
    rintro e w6 ⟨rfl, hb6⟩
    clear hx6
    replace Hl := Lib.hid (Hl.out.step hb6 (Nat.le_refl _))
    replace H4 := Lib.hid (H4.out.step hb6 (Nat.le_refl _))
    replace H5 := Lib.hid (H5.out.step hb6 (Nat.le_refl _))
    have B6 := B5.trans (hb6.mono Z5)
    have Z6 := B6.size
    clear hb6
    clear H4
    clear H5
    have hx7 := rGreatest_any _ l _ _ Hl.out
    go_wp2_with fail
    refine hx7.mono ?_
    rintro e w7 ⟨rfl, hb7⟩
    clear hx7
    replace Hl := Lib.hid (Hl.out.step hb7 (Nat.le_refl _))
    have B7 := B6.trans (hb7.mono Z6)
    have Z7 := B7.size
    clear hb7
    have hx8 := awake_any w7
    go_wp2_with fail
    refine hx8.mono ?_
    rintro e w8 ⟨rfl, hb8⟩
    clear hx8
    replace Hl := Lib.hid (Hl.out.step hb8 (Nat.le_refl _))
    have B8 := B7.trans (hb8.mono Z7)
    have Z8 := B8.size
    clear hb8
    go_wp2
    go_ret
    exact ⟨rfl, B8⟩
  · skip
    have hcl : ∀ p ∈ l, p.2 ≤ 12 := fun p hp => by have := grt_le p hp; omega
    have hll := lev_len vl ll hcl
    go_enter Try.func3, Try.ntmps3
    have hx9 := fine_any _ l _ _ Hl.out
    rw [hfl] at hx9
    go_wp2_with fail
    refine hx9.mono ?_
    rintro e w9 ⟨rfl, hb9⟩
    clear hx9
    replace Hl := Lib.hid (Hl.out.step hb9 (Nat.le_refl _))
    have B9 := hb9
    have Z9 := B9.size
    clear hb9
    have hx10 := pAtLeast_any _ l t _ _ Hl.out (by omega)
    rw [hof] at hx10
    go_wp2_with fail
    refine hx10.mono ?_
    rintro e w10 ⟨v10, rfl, hr10, hb10⟩
    clear hx10
    replace Hl := Lib.hid (Hl.out.step hb10 (Nat.le_refl _))
    have B10 := B9.trans (hb10.mono Z9)
    have Z10 := B10.size
    have H10 := Lib.hid hr10
    obtain ⟨A10, c10, rfl, _, _⟩ := hr10
    clear hb10
    have hx11 := rAtLeast_any _ l t _ _ Hl.out (by omega)
    go_wp2_with fail
    refine hx11.mono ?_
    rintro e w11 ⟨v11, rfl, hr11, hb11⟩
    clear hx11
    replace Hl := Lib.hid (Hl.out.step hb11 (Nat.le_refl _))
    replace H10 := Lib.hid (H10.out.step hb11 (Nat.le_refl _))
    have B11 := B10.trans (hb11.mono Z10)
    have Z11 := B11.size
    have H11 := Lib.hid hr11
    obtain ⟨A11, c11, rfl, _, _⟩ := hr11
    clear hb11
    have hx12 := sameP_any _ _ _ _ _ _ _ H10.out H11.out
    rw [decide_eq_true rfl] at hx12
    go_wp2_with fail
    refine hx12.mono ?_
    rintro e w12 ⟨rfl, hb12⟩
    clear hx12
    replace Hl := Lib.hid (Hl.out.step hb12 (Nat.le_refl _))
    replace H10 := Lib.hid (H10.out.step hb12 (Nat.le_refl _))
    replace H11 := Lib.hid (H11.out.step hb12 (Nat.le_refl _))
    have B12 := B11.trans (hb12.mono Z11)
    have Z12 := B12.size
    clear hb12
    clear H10
    clear H11
    have hx13 := rGreatest_any _ l _ _ Hl.out
    go_wp2_with fail
    refine hx13.mono ?_
    rintro e w13 ⟨rfl, hb13⟩
    clear hx13
    replace Hl := Lib.hid (Hl.out.step hb13 (Nat.le_refl _))
    have B13 := B12.trans (hb13.mono Z12)
    have Z13 := B13.size
    clear hb13
    have hx14 := pLevels_any _ l _ _ Hl.out (by omega) (by omega)
    go_wp2_with fail
    refine hx14.mono ?_
    rintro e w14 ⟨v14, rfl, hr14, hb14⟩
    clear hx14
    replace Hl := Lib.hid (Hl.out.step hb14 (Nat.le_refl _))
    have B14 := B13.trans (hb14.mono Z13)
    have Z14 := B14.size
    have H14 := Lib.hid hr14
    obtain ⟨A14, c14, rfl, _, _⟩ := hr14
    clear hb14
    have hx15 := rLevels_any _ l _ _ Hl.out ll vl hcl
    go_wp2_with fail
    refine hx15.mono ?_
    rintro e w15 ⟨v15, rfl, hr15, hb15⟩
    clear hx15
    replace Hl := Lib.hid (Hl.out.step hb15 (Nat.le_refl _))
    replace H14 := Lib.hid (H14.out.step hb15 (Nat.le_refl _))
    have B15 := B14.trans (hb15.mono Z14)
    have Z15 := B15.size
    have H15 := Lib.hid hr15
    obtain ⟨A15, c15, rfl, _, _⟩ := hr15
    clear hb15
    have hx16 := sameP_any _ _ _ _ _ _ _ H14.out H15.out
    rw [decide_eq_true rfl] at hx16
    go_wp2_with fail
    refine hx16.mono ?_
    rintro e w16 ⟨rfl, hb16⟩
    clear hx16
    replace Hl := Lib.hid (Hl.out.step hb16 (Nat.le_refl _))
    replace H14 := Lib.hid (H14.out.step hb16 (Nat.le_refl _))
    replace H15 := Lib.hid (H15.out.step hb16 (Nat.le_refl _))
    have B16 := B15.trans (hb16.mono Z15)
    have Z16 := B16.size
    clear hb16
    clear H14
    clear H15
    have hx17 := awake_any w16
    go_wp2_with fail
    refine hx17.mono ?_
    rintro e w17 ⟨rfl, hb17⟩
    clear hx17
    replace Hl := Lib.hid (Hl.out.step hb17 (Nat.le_refl _))
    have B17 := B16.trans (hb17.mono Z16)
    have Z17 := B17.size
    clear hb17
    go_wp2
    go_ret
    exact ⟨rfl, B17⟩
end Go.Proofs.Ytbpjgipldddcfaa
