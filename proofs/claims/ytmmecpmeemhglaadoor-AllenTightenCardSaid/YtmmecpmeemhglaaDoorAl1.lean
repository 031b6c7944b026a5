/-
  Contracts of Allen's relations: the number of a relation, its inverse, the relation of two periods. Conditions: none.
-/
import Derived.Test.YtmmecpmeemhglaaDoorProg
import Derived.Test.YtmmecpmeemhglaaDoorBase
import Derived.Deep.RegionHeld3
import Derived.WalkSmall
import Derived.WalkKit
import Derived.WalkSpells
import Derived.WalkLawsBesides
import Derived.Deep.QuietTactic
import Derived.BigQuiet
import Derived.Handy
import Derived.Lib.Hide
namespace Go.Proofs.YtmmecpmeemhglaaDoor
open Go.RowKit

set_option maxHeartbeats 400000 in
theorem valid_any (a b : Int) (w : World) :
    Calls Tryd.prog 31 #[.agg #[.int .i64 a, .int .i64 b]] w fun e w' => e = .returned (.bool (vld a b)) ∧ Below w.heap.size w w' := by
  unfold vld
  by_cases h1 : 0 ≤ a <;> by_cases h2 : a < b <;> by_cases h3 : b ≤ 1099511627776
  all_goals first | (exfalso; omega) | skip
  all_goals
    go_enter Tryd.func31, Tryd.ntmps31
    go_wp2
    go_ret
    exact ⟨by simp [*], (Below.refl _ _).alloc (Nat.le_refl _) _⟩

set_option maxHeartbeats 400000 in
theorem rvalid_any (a b : Int) (w : World) :
    Calls Tryd.prog 13 #[.agg #[.int .i64 a, .int .i64 b]] w fun e w' => e = .returned (.bool (vld a b)) ∧ Below w.heap.size w w' := by
  unfold vld
  by_cases h1 : 0 ≤ a <;> by_cases h2 : a < b <;> by_cases h3 : b ≤ 1099511627776
  all_goals first | (exfalso; omega) | skip
  all_goals
    go_enter Tryd.func13, Tryd.ntmps13
    go_wp2
    go_ret
    exact ⟨by simp [*], (Below.refl _ _).alloc (Nat.le_refl _) _⟩

def isRel (r : Int) : Bool := decide (0 ≤ r) && decide (r < 13)
theorem isrel_any (r : Int) (w : World) :
    Calls Tryd.prog 33 #[.int .i64 r] w fun e w' => e = .returned (.bool (isRel r)) ∧ w = w' := by
  unfold isRel
  by_cases h1 : 0 ≤ r <;> by_cases h2 : r < 13
  all_goals first | (exfalso; omega) | skip
  all_goals
    go_enter Tryd.func33, Tryd.ntmps33
    go_wp2
    go_ret
    exact ⟨by simp [*], rfl⟩
theorem isRel_iff (r : Int) : isRel r = true ↔ 0 ≤ r ∧ r < 13 := by simp [isRel]
def invR (r : Int) : Int := if isRel r then 12 - r else -1
theorem inv_any (r : Int) (w : World) :
    Calls Tryd.prog 14 #[.int .i64 r] w fun e w' => e = .returned (.int .i64 (invR r)) ∧ w = w' := by
  unfold invR
  cases h : isRel r
  · go_enter Tryd.func14, Tryd.ntmps14
    go_wp2_with (go_at_call 33; refine (isrel_any _ _).mono ?_; rintro e w1 ⟨rfl, rfl⟩)
    go_ret
    exact ⟨rfl, rfl⟩
  · have hb := (isRel_iff r).1 h
    obtain ⟨hb1, hb2⟩ := hb
    go_enter Tryd.func14, Tryd.ntmps14
    go_wp2_with (go_at_call 33; refine (isrel_any _ _).mono ?_; rintro e w1 ⟨rfl, rfl⟩)
    go_ret
    exact ⟨rfl, rfl⟩
theorem rinv_any (r : Int) (w : World) :
    Calls Tryd.prog 16 #[.int .i64 r] w fun e w' => e = .returned (.int .i64 (invR r)) ∧ w = w' := by
  unfold invR
  cases h : isRel r
  · by_cases h1 : r < 0
    · go_enter Tryd.func16, Tryd.ntmps16
      go_wp2
      go_ret
      exact ⟨rfl, rfl⟩
    · have h2 : 13 ≤ r := by
        rcases Int.lt_or_le r 13 with h2 | h2
        · have := (isRel_iff r).2 ⟨by omega, h2⟩; rw [h] at this; cases this
        · exact h2
      go_enter Tryd.func16, Tryd.ntmps16
      go_wp2
      go_ret
      exact ⟨rfl, rfl⟩
  · have hb := (isRel_iff r).1 h
    obtain ⟨hb1, hb2⟩ := hb
    go_enter Tryd.func16, Tryd.ntmps16
    go_wp2
    go_ret
    exact ⟨rfl, rfl⟩

/-- The order of two numbers, -1, 0 or 1. -/
def sgn (a b : Int) : Int := if a < b then -1 else if b < a then 1 else 0
theorem cmp_any (a b : Int) (w : World) :
    Calls Tryd.prog 48 #[.int .i64 a, .int .i64 b] w fun e w' => e = .returned (.int .i64 (sgn a b)) ∧ w' = w := by
  unfold sgn
  rcases Int.lt_trichotomy a b with h | h | h
  · rw [if_pos h]
    go_enter Tryd.func48, Tryd.ntmps48
    go_wp2
    go_ret
    exact ⟨rfl, rfl⟩
  · subst h
    rw [if_neg (by omega), if_neg (by omega)]
    go_enter Tryd.func48, Tryd.ntmps48
    go_wp2
    go_ret
    exact ⟨rfl, rfl⟩
  · rw [if_neg (by omega), if_pos h]
    go_enter Tryd.func48, Tryd.ntmps48
    go_wp2
    go_ret
    exact ⟨rfl, rfl⟩
theorem cmp_lit {a b r : Int} (h : Hid (sgn a b = r)) (w : World) :
    Calls Tryd.prog 48 #[.int .i64 a, .int .i64 b] w fun e w' => e = .returned (.int .i64 r) ∧ w' = w := by
  rw [← h.out]; exact cmp_any a b w

/-- The relation of two periods that have an instant in common, by the order of their beginnings and of their ends. -/
def ovAt (x y : Int) : Int := if x < 0 then (if y < 0 then 2 else if y = 0 then 7 else 8) else if x = 0 then (if y < 0 then 3 else if y = 0 then 6 else 9) else (if y < 0 then 4 else if y = 0 then 5 else 10)
theorem sgn_vals (a b : Int) : sgn a b = -1 ∨ sgn a b = 0 ∨ sgn a b = 1 := by unfold sgn; repeat' split; all_goals omega
end Go.Proofs.YtmmecpmeemhglaaDoor
