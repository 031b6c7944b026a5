/-
  The walk of FrameSum. Conditions: the table lies as the rows say.
-/
import Derived.Test.YtkhdfjneibnlmaaDoorFrW
import Derived.WalkKit
import Derived.WalkSpells
import Derived.WalkLawsBesides
import Derived.Deep.QuietTactic
import Derived.BigQuiet
import Derived.Handy
import Derived.Lib.Hide
namespace Go.Proofs.YtkhdfjneibnlmaaDoor
open Go.RowKit

set_option maxRecDepth 100000 in
set_option maxHeartbeats 1600000 in
theorem law_sum (v : Value) (l : List UInt8) (w : World) (L : Nat) (henv : Env w) (hv : RdB w L w.heap.size v l) : Calls Tryd.prog 3 #[v] w fun e w' => e = .returned (.bool true) ∧ Below w.heap.size w w' := by
  have hw := fun W h => works_any W h
  have hp := pSum_any v l w L henv hv
  have hr := fun W (h : Below w.heap.size w W) => rSum_any v l W L W.heap.size (hv.step h (Nat.le_refl _))
  have HR := Lib.hid hr
  have HP := Lib.hid hp
  have HW := Lib.hid hw
  obtain ⟨A, c, rfl, hl63, _, _⟩ := hv
  clear hr hp hw
  by_cases h5 : l.length > 5000
  · have h5i : (l.length : Int) > 5000 := by omega
    go_enter Tryd.func3, Tryd.ntmps3
    go_wp2_with (go_at_call 11; refine (HW.out _ henv).mono ?_; rintro e w1 ⟨rfl, hb1⟩)
    go_ret
    exact ⟨rfl, hb1⟩
  · have h5i : ¬ (l.length : Int) > 5000 := by omega
    go_enter Tryd.func3, Tryd.ntmps3
    go_wp2_with (first | (go_at_call 9; refine HP.out.mono ?_; rintro e w1 ⟨rfl, hb1⟩) | (go_at_call 10; refine (HR.out _ hb1).mono ?_; rintro e w2 ⟨rfl, rfl⟩) | (go_at_call 11; refine (HW.out _ (henv.step hb1)).mono ?_; rintro e w3 ⟨rfl, hb3⟩))
    go_ret
    exact ⟨rfl, hb1.trans (hb3.mono hb1.size)⟩
end Go.Proofs.YtkhdfjneibnlmaaDoor
