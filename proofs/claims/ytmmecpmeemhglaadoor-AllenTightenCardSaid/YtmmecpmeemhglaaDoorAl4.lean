/-
  Contracts of the statements' own Is, Holds and Relation: the condition of each relation. Conditions: none.
-/
import Derived.Test.YtmmecpmeemhglaaDoorAl3
import Derived.WalkKit
import Derived.WalkSpells
import Derived.WalkLawsBesides
import Derived.Deep.QuietTactic
import Derived.BigQuiet
import Derived.Handy
import Derived.Lib.Hide
namespace Go.Proofs.YtmmecpmeemhglaaDoor
open Go.RowKit

def is0 (_a b c _d : Int) : Bool := decide (b < c)
set_option maxRecDepth 100000 in
set_option maxHeartbeats 1600000 in
theorem ris_0 (a b c d : Int) (w : World) :
    Calls Tryd.prog 30 #[.int .i64 0, .agg #[.int .i64 a, .int .i64 b], .agg #[.int .i64 c, .int .i64 d]] w fun e w' => e = .returned (.bool (is0 a b c d)) ∧ Below w.heap.size w w' := by
  unfold is0
  by_cases g0 : b < c
  all_goals first | (exfalso; omega) | skip
  all_goals
    go_enter Tryd.func30, Tryd.ntmps30
    go_wp2
    go_ret
    refine ⟨by simp [*], ?_⟩
    (repeat' (first | (with_reducible exact Below.refl _ _) | (with_reducible assumption) | (with_reducible refine Below.alloc ?_ ?_ _) | (with_reducible refine Below.drew ?_) | (with_reducible refine Below.setCell ?_ ?_ _) | (with_reducible refine Below.trans ?_ (Below.mono (by assumption) ?_)) | go_size))

def is1 (_a b c _d : Int) : Bool := (b == c)
set_option maxRecDepth 100000 in
set_option maxHeartbeats 1600000 in
theorem ris_1 (a b c d : Int) (w : World) :
    Calls Tryd.prog 30 #[.int .i64 1, .agg #[.int .i64 a, .int .i64 b], .agg #[.int .i64 c, .int .i64 d]] w fun e w' => e = .returned (.bool (is1 a b c d)) ∧ Below w.heap.size w w' := by
  unfold is1
  cases g0 : (b == c)
  all_goals first | (exfalso; omega) | skip
  all_goals
    go_enter Tryd.func30, Tryd.ntmps30
    go_wp2
    go_ret
    refine ⟨by simp [*], ?_⟩
    (repeat' (first | (with_reducible exact Below.refl _ _) | (with_reducible assumption) | (with_reducible refine Below.alloc ?_ ?_ _) | (with_reducible refine Below.drew ?_) | (with_reducible refine Below.setCell ?_ ?_ _) | (with_reducible refine Below.trans ?_ (Below.mono (by assumption) ?_)) | go_size))

def is2 (a b c d : Int) : Bool := decide (a < c) && decide (c < b) && decide (b < d)
set_option maxRecDepth 100000 in
set_option maxHeartbeats 1600000 in
theorem ris_2 (a b c d : Int) (w : World) :
    Calls Tryd.prog 30 #[.int .i64 2, .agg #[.int .i64 a, .int .i64 b], .agg #[.int .i64 c, .int .i64 d]] w fun e w' => e = .returned (.bool (is2 a b c d)) ∧ Below w.heap.size w w' := by
  unfold is2
  by_cases g0 : a < c <;> by_cases g1 : c < b <;> by_cases g2 : b < d
  all_goals first | (exfalso; omega) | skip
  all_goals
    go_enter Tryd.func30, Tryd.ntmps30
    go_wp2
    go_ret
    refine ⟨by simp [*], ?_⟩
    (repeat' (first | (with_reducible exact Below.refl _ _) | (with_reducible assumption) | (with_reducible refine Below.alloc ?_ ?_ _) | (with_reducible refine Below.drew ?_) | (with_reducible refine Below.setCell ?_ ?_ _) | (with_reducible refine Below.trans ?_ (Below.mono (by assumption) ?_)) | go_size))

def is3 (a b c d : Int) : Bool := (a == c) && decide (b < d)
set_option maxRecDepth 100000 in
set_option maxHeartbeats 1600000 in
theorem ris_3 (a b c d : Int) (w : World) :
    Calls Tryd.prog 30 #[.int .i64 3, .agg #[.int .i64 a, .int .i64 b], .agg #[.int .i64 c, .int .i64 d]] w fun e w' => e = .returned (.bool (is3 a b c d)) ∧ Below w.heap.size w w' := by
  unfold is3
  cases g0 : (a == c) <;> by_cases g1 : b < d
  all_goals first | (exfalso; omega) | skip
  all_goals
    go_enter Tryd.func30, Tryd.ntmps30
    go_wp2
    go_ret
    refine ⟨by simp [*], ?_⟩
    (repeat' (first | (with_reducible exact Below.refl _ _) | (with_reducible assumption) | (with_reducible refine Below.alloc ?_ ?_ _) | (with_reducible refine Below.drew ?_) | (with_reducible refine Below.setCell ?_ ?_ _) | (with_reducible refine Below.trans ?_ (Below.mono (by assumption) ?_)) | go_size))

def is4 (a b c d : Int) : Bool := decide (c < a) && decide (b < d)
set_option maxRecDepth 100000 in
set_option maxHeartbeats 1600000 in
theorem ris_4 (a b c d : Int) (w : World) :
    Calls Tryd.prog 30 #[.int .i64 4, .agg #[.int .i64 a, .int .i64 b], .agg #[.int .i64 c, .int .i64 d]] w fun e w' => e = .returned (.bool (is4 a b c d)) ∧ Below w.heap.size w w' := by
  unfold is4
  by_cases g0 : c < a <;> by_cases g1 : b < d
  all_goals first | (exfalso; omega) | skip
  all_goals
    go_enter Tryd.func30, Tryd.ntmps30
    go_wp2
    go_ret
    refine ⟨by simp [*], ?_⟩
    (repeat' (first | (with_reducible exact Below.refl _ _) | (with_reducible assumption) | (with_reducible refine Below.alloc ?_ ?_ _) | (with_reducible refine Below.drew ?_) | (with_reducible refine Below.setCell ?_ ?_ _) | (with_reducible refine Below.trans ?_ (Below.mono (by assumption) ?_)) | go_size))

def is5 (a b c d : Int) : Bool := (b == d) && decide (c < a)
set_option maxRecDepth 100000 in
set_option maxHeartbeats 1600000 in
theorem ris_5 (a b c d : Int) (w : World) :
    Calls Tryd.prog 30 #[.int .i64 5, .agg #[.int .i64 a, .int .i64 b], .agg #[.int .i64 c, .int .i64 d]] w fun e w' => e = .returned (.bool (is5 a b c d)) ∧ Below w.heap.size w w' := by
  unfold is5
  cases g0 : (b == d) <;> by_cases g1 : c < a
  all_goals first | (exfalso; omega) | skip
  all_goals
    go_enter Tryd.func30, Tryd.ntmps30
    go_wp2
    go_ret
    refine ⟨by simp [*], ?_⟩
    (repeat' (first | (with_reducible exact Below.refl _ _) | (with_reducible assumption) | (with_reducible refine Below.alloc ?_ ?_ _) | (with_reducible refine Below.drew ?_) | (with_reducible refine Below.setCell ?_ ?_ _) | (with_reducible refine Below.trans ?_ (Below.mono (by assumption) ?_)) | go_size))

def is6 (a b c d : Int) : Bool := (a == c) && (b == d)
set_option maxRecDepth 100000 in
set_option maxHeartbeats 1600000 in
theorem ris_6 (a b c d : Int) (w : World) :
    Calls Tryd.prog 30 #[.int .i64 6, .agg #[.int .i64 a, .int .i64 b], .agg #[.int .i64 c, .int .i64 d]] w fun e w' => e = .returned (.bool (is6 a b c d)) ∧ Below w.heap.size w w' := by
  unfold is6
  cases g0 : (a == c) <;> cases g1 : (b == d)
  all_goals first | (exfalso; omega) | skip
  all_goals
    go_enter Tryd.func30, Tryd.ntmps30
    go_wp2
    go_ret
    refine ⟨by simp [*], ?_⟩
    (repeat' (first | (with_reducible exact Below.refl _ _) | (with_reducible assumption) | (with_reducible refine Below.alloc ?_ ?_ _) | (with_reducible refine Below.drew ?_) | (with_reducible refine Below.setCell ?_ ?_ _) | (with_reducible refine Below.trans ?_ (Below.mono (by assumption) ?_)) | go_size))

def is7 (a b c d : Int) : Bool := (b == d) && decide (a < c)
set_option maxRecDepth 100000 in
set_option maxHeartbeats 1600000 in
theorem ris_7 (a b c d : Int) (w : World) :
    Calls Tryd.prog 30 #[.int .i64 7, .agg #[.int .i64 a, .int .i64 b], .agg #[.int .i64 c, .int .i64 d]] w fun e w' => e = .returned (.bool (is7 a b c d)) ∧ Below w.heap.size w w' := by
  unfold is7
  cases g0 : (b == d) <;> by_cases g1 : a < c
  all_goals first | (exfalso; omega) | skip
  all_goals
    go_enter Tryd.func30, Tryd.ntmps30
    go_wp2
    go_ret
    refine ⟨by simp [*], ?_⟩
    (repeat' (first | (with_reducible exact Below.refl _ _) | (with_reducible assumption) | (with_reducible refine Below.alloc ?_ ?_ _) | (with_reducible refine Below.drew ?_) | (with_reducible refine Below.setCell ?_ ?_ _) | (with_reducible refine Below.trans ?_ (Below.mono (by assumption) ?_)) | go_size))

def is8 (a b c d : Int) : Bool := decide (a < c) && decide (d < b)
set_option maxRecDepth 100000 in
set_option maxHeartbeats 1600000 in
theorem ris_8 (a b c d : Int) (w : World) :
    Calls Tryd.prog 30 #[.int .i64 8, .agg #[.int .i64 a, .int .i64 b], .agg #[.int .i64 c, .int .i64 d]] w fun e w' => e = .returned (.bool (is8 a b c d)) ∧ Below w.heap.size w w' := by
  unfold is8
  by_cases g0 : a < c <;> by_cases g1 : d < b
  all_goals first | (exfalso; omega) | skip
  all_goals
    go_enter Tryd.func30, Tryd.ntmps30
    go_wp2
    go_ret
    refine ⟨by simp [*], ?_⟩
    (repeat' (first | (with_reducible exact Below.refl _ _) | (with_reducible assumption) | (with_reducible refine Below.alloc ?_ ?_ _) | (with_reducible refine Below.drew ?_) | (with_reducible refine Below.setCell ?_ ?_ _) | (with_reducible refine Below.trans ?_ (Below.mono (by assumption) ?_)) | go_size))

def is9 (a b c d : Int) : Bool := (a == c) && decide (d < b)
set_option maxRecDepth 100000 in
set_option maxHeartbeats 1600000 in
theorem ris_9 (a b c d : Int) (w : World) :
    Calls Tryd.prog 30 #[.int .i64 9, .agg #[.int .i64 a, .int .i64 b], .agg #[.int .i64 c, .int .i64 d]] w fun e w' => e = .returned (.bool (is9 a b c d)) ∧ Below w.heap.size w w' := by
  unfold is9
  cases g0 : (a == c) <;> by_cases g1 : d < b
  all_goals first | (exfalso; omega) | skip
  all_goals
    go_enter Tryd.func30, Tryd.ntmps30
    go_wp2
    go_ret
    refine ⟨by simp [*], ?_⟩
    (repeat' (first | (with_reducible exact Below.refl _ _) | (with_reducible assumption) | (with_reducible refine Below.alloc ?_ ?_ _) | (with_reducible refine Below.drew ?_) | (with_reducible refine Below.setCell ?_ ?_ _) | (with_reducible refine Below.trans ?_ (Below.mono (by assumption) ?_)) | go_size))

def is10 (a b c d : Int) : Bool := decide (c < a) && decide (a < d) && decide (d < b)
set_option maxRecDepth 100000 in
set_option maxHeartbeats 1600000 in
theorem ris_10 (a b c d : Int) (w : World) :
    Calls Tryd.prog 30 #[.int .i64 10, .agg #[.int .i64 a, .int .i64 b], .agg #[.int .i64 c, .int .i64 d]] w fun e w' => e = .returned (.bool (is10 a b c d)) ∧ Below w.heap.size w w' := by
  unfold is10
  by_cases g0 : c < a <;> by_cases g1 : a < d <;> by_cases g2 : d < b
  all_goals first | (exfalso; omega) | skip
  all_goals
    go_enter Tryd.func30, Tryd.ntmps30
    go_wp2
    go_ret
    refine ⟨by simp [*], ?_⟩
    (repeat' (first | (with_reducible exact Below.refl _ _) | (with_reducible assumption) | (with_reducible refine Below.alloc ?_ ?_ _) | (with_reducible refine Below.drew ?_) | (with_reducible refine Below.setCell ?_ ?_ _) | (with_reducible refine Below.trans ?_ (Below.mono (by assumption) ?_)) | go_size))

def is11 (a _b _c d : Int) : Bool := (d == a)
set_option maxRecDepth 100000 in
set_option maxHeartbeats 1600000 in
theorem ris_11 (a b c d : Int) (w : World) :
    Calls Tryd.prog 30 #[.int .i64 11, .agg #[.int .i64 a, .int .i64 b], .agg #[.int .i64 c, .int .i64 d]] w fun e w' => e = .returned (.bool (is11 a b c d)) ∧ Below w.heap.size w w' := by
  unfold is11
  cases g0 : (d == a)
  all_goals first | (exfalso; omega) | skip
  all_goals
    go_enter Tryd.func30, Tryd.ntmps30
    go_wp2
    go_ret
    refine ⟨by simp [*], ?_⟩
    (repeat' (first | (with_reducible exact Below.refl _ _) | (with_reducible assumption) | (with_reducible refine Below.alloc ?_ ?_ _) | (with_reducible refine Below.drew ?_) | (with_reducible refine Below.setCell ?_ ?_ _) | (with_reducible refine Below.trans ?_ (Below.mono (by assumption) ?_)) | go_size))

def is12 (a _b _c d : Int) : Bool := decide (d < a)
set_option maxRecDepth 100000 in
set_option maxHeartbeats 1600000 in
theorem ris_12 (a b c d : Int) (w : World) :
    Calls Tryd.prog 30 #[.int .i64 12, .agg #[.int .i64 a, .int .i64 b], .agg #[.int .i64 c, .int .i64 d]] w fun e w' => e = .returned (.bool (is12 a b c d)) ∧ Below w.heap.size w w' := by
  unfold is12
  by_cases g0 : d < a
  all_goals first | (exfalso; omega) | skip
  all_goals
    go_enter Tryd.func30, Tryd.ntmps30
    go_wp2
    go_ret
    refine ⟨by simp [*], ?_⟩
    (repeat' (first | (with_reducible exact Below.refl _ _) | (with_reducible assumption) | (with_reducible refine Below.alloc ?_ ?_ _) | (with_reducible refine Below.drew ?_) | (with_reducible refine Below.setCell ?_ ?_ _) | (with_reducible refine Below.trans ?_ (Below.mono (by assumption) ?_)) | go_size))
end Go.Proofs.YtmmecpmeemhglaaDoor
