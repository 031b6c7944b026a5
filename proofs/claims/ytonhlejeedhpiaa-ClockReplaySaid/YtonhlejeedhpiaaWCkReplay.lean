/-
  The walk of the statement ClockReplay. Conditions: none.
-/
import Derived.Test.YtonhlejeedhpiaaCkW
import Derived.WalkKit
import Derived.WalkSpells
import Derived.WalkLawsBesides
import Derived.Deep.QuietTactic
import Derived.BigQuiet
import Derived.Handy
import Derived.Lib.Hide
namespace Go.Proofs.Ytonhlejeedhpiaa
open Go.RowKit
set_option maxRecDepth 100000 in
set_option maxHeartbeats 3200000 in
theorem law_replay (v : Value) (l : List Int) (w : World) (L : Nat) (hv : RdI w L w.heap.size v l) :
    Calls Try.prog 7 #[v] w fun e w' => e = .returned (.bool true) ∧ Below w.heap.size w w' := by
  have H0 := Lib.hid hv
  have hx1 := pReplay_any _ _ _ _ hv
  obtain ⟨A, c, rfl, _, _⟩ := hv
  have hx2 := fun w' hb => rReplay_any _ _ w' _ (H0.out.step (w' := w') hb (Nat.le_refl _))
  unfold RetRep at hx1 hx2
  generalize rpE 0 l = R at *
  generalize repL l = P at *
  have hRR : (R == R) = true := by simp
  go_enter Try.func7, Try.ntmps7
  go_wp2_with fail
  refine hx1.mono ?_
  rintro e w1 ⟨v1, rfl, hr1, hb1⟩
  have Z1 := hb1.size
  have R1 := Lib.hid hr1
  clear hr1 hx1
  go_wp2_with fail
  refine (hx2 _ hb1).mono ?_
  rintro e w2 ⟨v2, rfl, hr2, hb2⟩
  have B2 := hb1.trans (hb2.mono Z1)
  have Z2 := B2.size
  have R2 := Lib.hid hr2
  have S1 := Lib.hid (R1.out.step hb2 (Nat.le_refl _))
  clear hr2 hb2 hb1 hx2
  go_wp2_with fail
  have hx3 := sameS_any v1 v2 _ _ _ _ _ S1.out R2.out
  rw [decide_eq_true rfl] at hx3
  refine hx3.mono ?_
  rintro e w3 ⟨rfl, hb3⟩
  have B3 := B2.trans (hb3.mono Z2)
  have Z3 := B3.size
  clear hx3
  go_wp2_with fail
  refine (works_any _).mono ?_
  rintro e w4 ⟨rfl, hb4⟩
  go_wp2
  go_ret
  exact ⟨rfl, B3.trans (hb4.mono Z3)⟩
end Go.Proofs.Ytonhlejeedhpiaa
