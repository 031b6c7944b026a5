import Derived.Test.YtbpjgipldddcfaaGSw
import Derived.Test.YtbpjgipldddcfaaGJn
import Derived.Test.YtbpjgipldddcfaaGR2
import Derived.WalkKit
import Derived.WalkSpells
import Derived.WalkLawsBesides
import Derived.Deep.QuietTactic
import Derived.BigQuiet
import Derived.Handy
import Derived.Lib.Hide
/-
  Contracts of the program's functions on spans: Of, Union, Intersect, Subtract, Complement, Covers, Length, Slices, Contains, Next. Conditions: the lists hold at most 50000 periods.
-/
namespace Go.Proofs.Ytbpjgipldddcfaa
set_option maxRecDepth 100000
set_option linter.unusedVariables false
set_option linter.unusedSimpArgs false
open Go.RowKit

theorem asks_Of : Asks 41 fA := fun x y W => by
  cases x <;> cases y
  all_goals
    go_enter Try.func41, Try.ntmps41
    go_wp2
    go_ret
    exact ⟨rfl, Below.refl _ _⟩
theorem enters_Of : ∀ args w, (callFunc 41 args).run Try.prog w = .ok (.enter 41 args) w := enters_of Try.func41 (by kernel_rfl) rfl
theorem elem_le (g : Int → Bool) (a b : List (Int × Int)) : (elem g (pts (a ++ b))).length ≤ 2 * (a.length + b.length) := by
  have h1 := elem_len g (pts (a ++ b)); have h2 := pts_len (a ++ b); rw [List.length_append] at h2; omega

set_option maxHeartbeats 800000 in
theorem sOf_any (u : Value) (a : List (Int × Int)) (w : World) (L : Nat) (hu : RdP w L w.heap.size u a) (ha : a.length ≤ 50000) :
    Calls Try.prog 23 #[u] w (RetPers w (ofL a)) := by
  have h := sweep_any 41 fA asks_Of enters_Of u (.slice none 0 0) a [] w L 0 hu (nilP _ _ _) (by omega) (by simp)
  have hl := elem_le (gOf fA a []) a []
  rw [List.length_nil] at hl
  clear hu
  go_enter Try.func23, Try.ntmps23
  go_wp2_with fail
  refine h.mono ?_
  rintro e w1 ⟨v1, rfl, hr, hb1⟩
  have z1 := hb1.size
  go_wp2_with fail
  refine (joined_any v1 _ w1 w.heap.size hr (by omega)).mono ?_
  rintro e w2 ⟨v2, rfl, hr2, hb2⟩
  go_wp2
  go_ret
  exact ⟨_, rfl, hr2.more (Nat.le_refl _) z1, hb1.trans (hb2.mono z1)⟩

end Go.Proofs.Ytbpjgipldddcfaa
