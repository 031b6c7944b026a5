/-
  The walk of the statement ClockShown. Conditions: none.
-/
import Derived.Test.YtonhlejeedhpiaaCkW
import Derived.Test.YtonhlejeedhpiaaCkY
import Derived.WalkKit
import Derived.WalkSpells
import Derived.WalkLawsBesides
import Derived.Deep.QuietTactic
import Derived.BigQuiet
import Derived.Handy
import Derived.Lib.Hide
namespace Go.Proofs.Ytonhlejeedhpiaa
open Go.RowKit
set_option maxRecDepth 100000 in
set_option maxHeartbeats 3200000 in
theorem law_shown (v : Value) (l : List (Int × Int)) (t : Int) (w : World) (L : Nat) (hv : RdP w L w.heap.size v l) :
    Calls Try.prog 6 #[v, .int .i64 t] w fun e w' => e = .returned (.bool true) ∧ Below w.heap.size w w' := by
  have H0 := Lib.hid hv
  obtain ⟨A, c, rfl, _, _⟩ := hv
  go_enter Try.func6, Try.ntmps6
  go_wp2_with fail
  refine (pShown_any _ _ t _ _ H0.out).mono ?_
  rintro e w1 ⟨v1, rfl, hr1, hb1⟩
  have H1 := Lib.hid (H0.out.step hb1 (Nat.le_refl _))
  have Z1 := hb1.size
  have R1 := Lib.hid hr1
  clear hr1
  go_wp2_with fail
  refine (rShown_any _ _ t _ _ H1.out).mono ?_
  rintro e w2 ⟨v2, rfl, hr2, hb2⟩
  have B2 := hb1.trans (hb2.mono Z1)
  have Z2 := B2.size
  have R2 := Lib.hid hr2
  have S1 := Lib.hid (R1.out.step hb2 (Nat.le_refl _))
  clear hr2 hb2 hb1
  go_wp2_with fail
  have hx3 := sameP_any v1 v2 _ _ _ _ _ S1.out R2.out
  rw [decide_eq_true rfl] at hx3
  refine hx3.mono ?_
  rintro e w3 ⟨rfl, hb3⟩
  have B3 := B2.trans (hb3.mono Z2)
  have Z3 := B3.size
  clear hx3
  go_wp2_with fail
  refine (works_any _).mono ?_
  rintro e w4 ⟨rfl, hb4⟩
  go_wp2
  go_ret
  exact ⟨rfl, B3.trans (hb4.mono Z3)⟩
end Go.Proofs.Ytonhlejeedhpiaa
