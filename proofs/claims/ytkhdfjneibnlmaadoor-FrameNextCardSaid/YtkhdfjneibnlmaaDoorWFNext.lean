/-
  The walk of FrameNext. Conditions: the table lies as the rows say.
-/
import Derived.Test.YtkhdfjneibnlmaaDoorFrO
import Derived.Test.YtkhdfjneibnlmaaDoorFrEq
import Derived.WalkKit
import Derived.WalkSpells
import Derived.WalkLawsBesides
import Derived.Deep.QuietTactic
import Derived.BigQuiet
import Derived.Handy
import Derived.Lib.Hide
namespace Go.Proofs.YtkhdfjneibnlmaaDoor
open Go.RowKit

set_option maxRecDepth 100000 in
set_option maxHeartbeats 6400000 in
theorem law_next (v : Value) (l : List UInt8) (i : Int) (w : World) (L : Nat) (henv : Env w) (hv : RdB w L w.heap.size v l) :
    Calls Tryd.prog 5 #[v, .int .i64 i] w fun e w' => e = .returned (.bool true) ∧ Below w.heap.size w w' := by
  have hp := pNext_any v l i w L henv hv
  have hr := fun W (h : Below w.heap.size w W) => rNext_any v l i W L (hv.step h (Nat.le_refl _))
  have hwk := fun W (h : Below w.heap.size w W) => works_any W (henv.step h)
  have HP := Lib.hid hp
  have HR := Lib.hid hr
  have HW := Lib.hid hwk
  obtain ⟨A, c, rfl, _⟩ := hv
  generalize nextF l i = X at *
  clear hp hr hwk henv
  go_enter Tryd.func5, Tryd.ntmps5
  go_wp2_with fail
  with_reducible refine HP.out.mono ?_
  rintro e w1 ⟨v1, rfl, r1, b1⟩
  have R1 := Lib.hid r1
  clear r1 HP
  have hr2 := HR.out w1 b1
  go_wp2_with fail
  with_reducible refine hr2.mono ?_
  rintro e w2 ⟨v2, rfl, r2, b2⟩
  have B2 := b1.trans (b2.mono b1.size)
  have heq := equal_any v1 v2 X.2.1 w2 _ _ _ _ (R1.out.step b2 (Nat.le_refl _)) r2
  clear hr2 r2
  go_wp2_with fail
  with_reducible refine heq.mono ?_
  rintro e w3 ⟨rfl, rfl⟩
  clear heq
  have hw4 := HW.out _ B2
  go_wp2_with fail
  with_reducible refine hw4.mono ?_
  rintro e w4 ⟨rfl, b4⟩
  go_wp2_with fail
  go_ret
  exact ⟨rfl, B2.trans (b4.mono B2.size)⟩
end Go.Proofs.YtkhdfjneibnlmaaDoor
