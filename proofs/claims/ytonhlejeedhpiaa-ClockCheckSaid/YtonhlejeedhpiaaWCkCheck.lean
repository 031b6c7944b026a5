/-
  The walk of the statement ClockCheck. Conditions: none.
-/
import Derived.Test.YtonhlejeedhpiaaCkW
import Derived.Test.YtonhlejeedhpiaaCkC
import Derived.WalkKit
import Derived.WalkSpells
import Derived.WalkLawsBesides
import Derived.Deep.QuietTactic
import Derived.BigQuiet
import Derived.Handy
import Derived.Lib.Hide
namespace Go.Proofs.Ytonhlejeedhpiaa
open Go.RowKit
set_option maxRecDepth 100000 in
set_option maxHeartbeats 3200000 in
theorem law_check (v : Value) (l : List (Int × Int)) (w : World) (L : Nat) (hv : RdP w L w.heap.size v l) :
    Calls Try.prog 4 #[v] w fun e w' => e = .returned (.bool true) ∧ Below w.heap.size w w' := by
  have H0 := Lib.hid hv
  obtain ⟨A, c, rfl, _, _⟩ := hv
  generalize hR : chk 0 l = R
  have hRR : (R == R) = true := by simp
  go_enter Try.func4, Try.ntmps4
  go_wp2_with fail
  have hx1 := pCheck_any _ _ _ _ H0.out
  rw [hR] at hx1
  refine hx1.mono ?_
  rintro e w1 ⟨rfl, hb1⟩
  have H1 := Lib.hid (H0.out.step hb1 (Nat.le_refl _))
  have Z1 := hb1.size
  clear hx1
  go_wp2_with fail
  have hx2 := rCheck_any _ _ _ _ H1.out
  rw [hR] at hx2
  refine hx2.mono ?_
  rintro e w2 ⟨rfl, hb2⟩
  have B2 := hb1.trans (hb2.mono Z1)
  have Z2 := B2.size
  clear hx2
  go_wp2_with fail
  refine (works_any _).mono ?_
  rintro e w3 ⟨rfl, hb3⟩
  go_wp2
  go_ret
  exact ⟨rfl, B2.trans (hb3.mono Z2)⟩
end Go.Proofs.Ytonhlejeedhpiaa
