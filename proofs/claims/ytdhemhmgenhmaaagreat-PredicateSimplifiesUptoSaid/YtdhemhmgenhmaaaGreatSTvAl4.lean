import Derived.Test.YtdhemhmgenhmaaaGreatMX
import Derived.WalkKit
import Derived.WalkSpells
import Derived.WalkLawsBesides
import Derived.Deep.QuietTactic
import Derived.BigQuiet
import Derived.Handy
import Derived.Lib.Hide
set_option maxRecDepth 100000
set_option maxHeartbeats 25600000
set_option linter.unusedVariables false
set_option linter.unusedSimpArgs false
/-
  Contracts of the statements' own Is, Holds and Relation: the condition of each relation. Conditions: none.
-/
namespace Go.Proofs.YtdhemhmgenhmaaaGreat.Aln
open Go.RowKit
def is0 (_a b c _d : Int) : Bool := decide (b < c)
theorem ris_0 (a b c d : Int) (w : World) :
  Calls Tryz.prog 129 #[.int .i64 0, .agg #[.int .i64 a, .int .i64 b], .agg #[.int .i64 c, .int .i64 d]] w fun e w' => e = .returned (.bool (is0 a b c d)) ∧ Below w.heap.size w w' := by
 unfold is0
 by_cases g0 : b < c
 all_goals first | (exfalso; omega) | skip
 all_goals
  go_enter Tryz.func129, Tryz.ntmps129
  go_wp2
  go_ret
  refine ⟨by simp [*], ?_⟩
  (repeat' first | (with_reducible first | exact Below.refl _ _ | assumption | refine Below.alloc ?_ ?_ _ | refine Below.drew ?_ | refine Below.setCell ?_ ?_ _ | refine Below.trans ?_ (Below.mono (by assumption) ?_)) | go_size)
def is1 (_a b c _d : Int) : Bool := (b == c)
theorem ris_1 (a b c d : Int) (w : World) :
  Calls Tryz.prog 129 #[.int .i64 1, .agg #[.int .i64 a, .int .i64 b], .agg #[.int .i64 c, .int .i64 d]] w fun e w' => e = .returned (.bool (is1 a b c d)) ∧ Below w.heap.size w w' := by
 unfold is1
 cases g0 : (b == c)
 all_goals first | (exfalso; omega) | skip
 all_goals
  go_enter Tryz.func129, Tryz.ntmps129
  go_wp2
  go_ret
  refine ⟨by simp [*], ?_⟩
  (repeat' first | (with_reducible first | exact Below.refl _ _ | assumption | refine Below.alloc ?_ ?_ _ | refine Below.drew ?_ | refine Below.setCell ?_ ?_ _ | refine Below.trans ?_ (Below.mono (by assumption) ?_)) | go_size)
def is2 (a b c d : Int) : Bool := decide (a < c) && decide (c < b) && decide (b < d)
theorem ris_2 (a b c d : Int) (w : World) :
  Calls Tryz.prog 129 #[.int .i64 2, .agg #[.int .i64 a, .int .i64 b], .agg #[.int .i64 c, .int .i64 d]] w fun e w' => e = .returned (.bool (is2 a b c d)) ∧ Below w.heap.size w w' := by
 unfold is2
 by_cases g0 : a < c <;> by_cases g1 : c < b <;> by_cases g2 : b < d
 all_goals first | (exfalso; omega) | skip
 all_goals
  go_enter Tryz.func129, Tryz.ntmps129
  go_wp2
  go_ret
  refine ⟨by simp [*], ?_⟩
  (repeat' first | (with_reducible first | exact Below.refl _ _ | assumption | refine Below.alloc ?_ ?_ _ | refine Below.drew ?_ | refine Below.setCell ?_ ?_ _ | refine Below.trans ?_ (Below.mono (by assumption) ?_)) | go_size)
def is3 (a b c d : Int) : Bool := (a == c) && decide (b < d)
theorem ris_3 (a b c d : Int) (w : World) :
  Calls Tryz.prog 129 #[.int .i64 3, .agg #[.int .i64 a, .int .i64 b], .agg #[.int .i64 c, .int .i64 d]] w fun e w' => e = .returned (.bool (is3 a b c d)) ∧ Below w.heap.size w w' := by
 unfold is3
 cases g0 : (a == c) <;> by_cases g1 : b < d
 all_goals first | (exfalso; omega) | skip
 all_goals
  go_enter Tryz.func129, Tryz.ntmps129
  go_wp2
  go_ret
  refine ⟨by simp [*], ?_⟩
  (repeat' first | (with_reducible first | exact Below.refl _ _ | assumption | refine Below.alloc ?_ ?_ _ | refine Below.drew ?_ | refine Below.setCell ?_ ?_ _ | refine Below.trans ?_ (Below.mono (by assumption) ?_)) | go_size)
def is4 (a b c d : Int) : Bool := decide (c < a) && decide (b < d)
theorem ris_4 (a b c d : Int) (w : World) :
  Calls Tryz.prog 129 #[.int .i64 4, .agg #[.int .i64 a, .int .i64 b], .agg #[.int .i64 c, .int .i64 d]] w fun e w' => e = .returned (.bool (is4 a b c d)) ∧ Below w.heap.size w w' := by
 unfold is4
 by_cases g0 : c < a <;> by_cases g1 : b < d
 all_goals first | (exfalso; omega) | skip
 all_goals
  go_enter Tryz.func129, Tryz.ntmps129
  go_wp2
  go_ret
  refine ⟨by simp [*], ?_⟩
  (repeat' first | (with_reducible first | exact Below.refl _ _ | assumption | refine Below.alloc ?_ ?_ _ | refine Below.drew ?_ | refine Below.setCell ?_ ?_ _ | refine Below.trans ?_ (Below.mono (by assumption) ?_)) | go_size)
def is5 (a b c d : Int) : Bool := (b == d) && decide (c < a)
theorem ris_5 (a b c d : Int) (w : World) :
  Calls Tryz.prog 129 #[.int .i64 5, .agg #[.int .i64 a, .int .i64 b], .agg #[.int .i64 c, .int .i64 d]] w fun e w' => e = .returned (.bool (is5 a b c d)) ∧ Below w.heap.size w w' := by
 unfold is5
 cases g0 : (b == d) <;> by_cases g1 : c < a
 all_goals first | (exfalso; omega) | skip
 all_goals
  go_enter Tryz.func129, Tryz.ntmps129
  go_wp2
  go_ret
  refine ⟨by simp [*], ?_⟩
  (repeat' first | (with_reducible first | exact Below.refl _ _ | assumption | refine Below.alloc ?_ ?_ _ | refine Below.drew ?_ | refine Below.setCell ?_ ?_ _ | refine Below.trans ?_ (Below.mono (by assumption) ?_)) | go_size)
def is6 (a b c d : Int) : Bool := (a == c) && (b == d)
theorem ris_6 (a b c d : Int) (w : World) :
  Calls Tryz.prog 129 #[.int .i64 6, .agg #[.int .i64 a, .int .i64 b], .agg #[.int .i64 c, .int .i64 d]] w fun e w' => e = .returned (.bool (is6 a b c d)) ∧ Below w.heap.size w w' := by
 unfold is6
 cases g0 : (a == c) <;> cases g1 : (b == d)
 all_goals first | (exfalso; omega) | skip
 all_goals
  go_enter Tryz.func129, Tryz.ntmps129
  go_wp2
  go_ret
  refine ⟨by simp [*], ?_⟩
  (repeat' first | (with_reducible first | exact Below.refl _ _ | assumption | refine Below.alloc ?_ ?_ _ | refine Below.drew ?_ | refine Below.setCell ?_ ?_ _ | refine Below.trans ?_ (Below.mono (by assumption) ?_)) | go_size)
def is7 (a b c d : Int) : Bool := (b == d) && decide (a < c)
theorem ris_7 (a b c d : Int) (w : World) :
  Calls Tryz.prog 129 #[.int .i64 7, .agg #[.int .i64 a, .int .i64 b], .agg #[.int .i64 c, .int .i64 d]] w fun e w' => e = .returned (.bool (is7 a b c d)) ∧ Below w.heap.size w w' := by
 unfold is7
 cases g0 : (b == d) <;> by_cases g1 : a < c
 all_goals first | (exfalso; omega) | skip
 all_goals
  go_enter Tryz.func129, Tryz.ntmps129
  go_wp2
  go_ret
  refine ⟨by simp [*], ?_⟩
  (repeat' first | (with_reducible first | exact Below.refl _ _ | assumption | refine Below.alloc ?_ ?_ _ | refine Below.drew ?_ | refine Below.setCell ?_ ?_ _ | refine Below.trans ?_ (Below.mono (by assumption) ?_)) | go_size)
def is8 (a b c d : Int) : Bool := decide (a < c) && decide (d < b)
theorem ris_8 (a b c d : Int) (w : World) :
  Calls Tryz.prog 129 #[.int .i64 8, .agg #[.int .i64 a, .int .i64 b], .agg #[.int .i64 c, .int .i64 d]] w fun e w' => e = .returned (.bool (is8 a b c d)) ∧ Below w.heap.size w w' := by
 unfold is8
 by_cases g0 : a < c <;> by_cases g1 : d < b
 all_goals first | (exfalso; omega) | skip
 all_goals
  go_enter Tryz.func129, Tryz.ntmps129
  go_wp2
  go_ret
  refine ⟨by simp [*], ?_⟩
  (repeat' first | (with_reducible first | exact Below.refl _ _ | assumption | refine Below.alloc ?_ ?_ _ | refine Below.drew ?_ | refine Below.setCell ?_ ?_ _ | refine Below.trans ?_ (Below.mono (by assumption) ?_)) | go_size)
def is9 (a b c d : Int) : Bool := (a == c) && decide (d < b)
theorem ris_9 (a b c d : Int) (w : World) :
  Calls Tryz.prog 129 #[.int .i64 9, .agg #[.int .i64 a, .int .i64 b], .agg #[.int .i64 c, .int .i64 d]] w fun e w' => e = .returned (.bool (is9 a b c d)) ∧ Below w.heap.size w w' := by
 unfold is9
 cases g0 : (a == c) <;> by_cases g1 : d < b
 all_goals first | (exfalso; omega) | skip
 all_goals
  go_enter Tryz.func129, Tryz.ntmps129
  go_wp2
  go_ret
  refine ⟨by simp [*], ?_⟩
  (repeat' first | (with_reducible first | exact Below.refl _ _ | assumption | refine Below.alloc ?_ ?_ _ | refine Below.drew ?_ | refine Below.setCell ?_ ?_ _ | refine Below.trans ?_ (Below.mono (by assumption) ?_)) | go_size)
def is10 (a b c d : Int) : Bool := decide (c < a) && decide (a < d) && decide (d < b)
theorem ris_10 (a b c d : Int) (w : World) :
  Calls Tryz.prog 129 #[.int .i64 10, .agg #[.int .i64 a, .int .i64 b], .agg #[.int .i64 c, .int .i64 d]] w fun e w' => e = .returned (.bool (is10 a b c d)) ∧ Below w.heap.size w w' := by
 unfold is10
 by_cases g0 : c < a <;> by_cases g1 : a < d <;> by_cases g2 : d < b
 all_goals first | (exfalso; omega) | skip
 all_goals
  go_enter Tryz.func129, Tryz.ntmps129
  go_wp2
  go_ret
  refine ⟨by simp [*], ?_⟩
  (repeat' first | (with_reducible first | exact Below.refl _ _ | assumption | refine Below.alloc ?_ ?_ _ | refine Below.drew ?_ | refine Below.setCell ?_ ?_ _ | refine Below.trans ?_ (Below.mono (by assumption) ?_)) | go_size)
def is11 (a _b _c d : Int) : Bool := (d == a)
theorem ris_11 (a b c d : Int) (w : World) :
  Calls Tryz.prog 129 #[.int .i64 11, .agg #[.int .i64 a, .int .i64 b], .agg #[.int .i64 c, .int .i64 d]] w fun e w' => e = .returned (.bool (is11 a b c d)) ∧ Below w.heap.size w w' := by
 unfold is11
 cases g0 : (d == a)
 all_goals first | (exfalso; omega) | skip
 all_goals
  go_enter Tryz.func129, Tryz.ntmps129
  go_wp2
  go_ret
  refine ⟨by simp [*], ?_⟩
  (repeat' first | (with_reducible first | exact Below.refl _ _ | assumption | refine Below.alloc ?_ ?_ _ | refine Below.drew ?_ | refine Below.setCell ?_ ?_ _ | refine Below.trans ?_ (Below.mono (by assumption) ?_)) | go_size)
def is12 (a _b _c d : Int) : Bool := decide (d < a)
theorem ris_12 (a b c d : Int) (w : World) :
  Calls Tryz.prog 129 #[.int .i64 12, .agg #[.int .i64 a, .int .i64 b], .agg #[.int .i64 c, .int .i64 d]] w fun e w' => e = .returned (.bool (is12 a b c d)) ∧ Below w.heap.size w w' := by
 unfold is12
 by_cases g0 : d < a
 all_goals first | (exfalso; omega) | skip
 all_goals
  go_enter Tryz.func129, Tryz.ntmps129
  go_wp2
  go_ret
  refine ⟨by simp [*], ?_⟩
  (repeat' first | (with_reducible first | exact Below.refl _ _ | assumption | refine Below.alloc ?_ ?_ _ | refine Below.drew ?_ | refine Below.setCell ?_ ?_ _ | refine Below.trans ?_ (Below.mono (by assumption) ?_)) | go_size)
end Go.Proofs.YtdhemhmgenhmaaaGreat.Aln
