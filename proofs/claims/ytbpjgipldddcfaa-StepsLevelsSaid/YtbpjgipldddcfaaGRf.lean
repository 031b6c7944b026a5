import Derived.Test.YtbpjgipldddcfaaGIn
import Derived.Deep.RegionHeld3
import Derived.IntWalk
import Derived.WalkKit
import Derived.WalkSpells
import Derived.WalkLawsBesides
import Derived.Deep.QuietTactic
import Derived.BigQuiet
import Derived.Handy
import Derived.Lib.Hide
/-
  Contracts of the reference's Slices, Join and combinations. Conditions: the lists hold at most 100000 periods.
-/
namespace Go.Proofs.Ytbpjgipldddcfaa
set_option maxRecDepth 100000
set_option linter.unusedVariables false
set_option linter.unusedSimpArgs false
open Go.RowKit

theorem elem_step (g : Int → Bool) {P : List Int} {k : Nat} {x y : Int} (hx : P[k]? = some x) (hy : P[k + 1]? = some y) : elem g (P.take (k + 1 + 1)) = elem g (P.take (k + 1)) ++ (if g x then [(x, y)] else []) := by
  rw [take_snoc_I hy, take_snoc_I hx, List.append_assoc, List.singleton_append]
  exact elem_snoc g x y _

set_option maxHeartbeats 800000 in
theorem wanted_any (kd : Int) (hk : kd = 1 ∨ kd = 2 ∨ kd = 3 ∨ kd = 4) (x y : Bool) (w : World) :
    Calls Try.prog 75 #[.int .i64 kd, .bool x, .bool y] w fun e w' => e = .returned (.bool (wantF kd x y)) ∧ Below w.heap.size w w' := by
  rcases hk with rfl | rfl | rfl | rfl <;> cases x <;> cases y
  all_goals
    go_enter Try.func75, Try.ntmps75
    go_wp2
    go_ret
    exact ⟨rfl, Below.refl _ _⟩
end Go.Proofs.Ytbpjgipldddcfaa
