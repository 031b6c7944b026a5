import Derived.Test.YtpiadcfejbnonaaMX
import Derived.WalkKit
import Derived.WalkSpells
import Derived.WalkLawsBesides
import Derived.Deep.QuietTactic
import Derived.BigQuiet
import Derived.Handy
import Derived.Lib.Hide
import Derived.Test.YtpiadcfejbnonaaMA
/-
  Contracts of the statements' own Is, Holds and Relation: the condition of each relation. Conditions: none.
-/
namespace Go.Proofs.Ytpiadcfejbnonaa.Aln
set_option linter.unusedVariables false
set_option linter.unusedSimpArgs false
set_option linter.unusedVariables false
set_option linter.unusedSimpArgs false
set_option linter.unusedVariables false
set_option linter.unusedSimpArgs false
set_option maxRecDepth 100000
open Go.RowKit

def is0 (_a b c _d : Int) : Bool := decide (b < c)
set_option maxRecDepth 100000 in
set_option maxHeartbeats 1600000 in
theorem ris_0 (a b c d : Int) (w : World) :
    Calls Try.prog 135 #[.int .i64 0, .agg #[.int .i64 a, .int .i64 b], .agg #[.int .i64 c, .int .i64 d]] w fun e w' => e = .returned (.bool (is0 a b c d)) ∧ Below w.heap.size w w' := by
  unfold is0
  by_cases g0 : b < c
  all_goals first | (exfalso; omega) | skip
  all_goals
    go_enter Try.func135, Try.ntmps135
    go_wp2
    go_ret
    refine ⟨by simp [*], ?_⟩
    (repeat' (first | (with_reducible exact Below.refl _ _) | (with_reducible assumption) | (with_reducible refine Below.alloc ?_ ?_ _) | (with_reducible refine Below.drew ?_) | (with_reducible refine Below.setCell ?_ ?_ _) | (with_reducible refine Below.trans ?_ (Below.mono (by assumption) ?_)) | go_size))

def is1 (_a b c _d : Int) : Bool := (b == c)
set_option maxRecDepth 100000 in
set_option maxHeartbeats 1600000 in
theorem ris_1 (a b c d : Int) (w : World) :
    Calls Try.prog 135 #[.int .i64 1, .agg #[.int .i64 a, .int .i64 b], .agg #[.int .i64 c, .int .i64 d]] w fun e w' => e = .returned (.bool (is1 a b c d)) ∧ Below w.heap.size w w' := by
  unfold is1
  cases g0 : (b == c)
  all_goals first | (exfalso; omega) | skip
  all_goals
    go_enter Try.func135, Try.ntmps135
    go_wp2
    go_ret
    refine ⟨by simp [*], ?_⟩
    (repeat' (first | (with_reducible exact Below.refl _ _) | (with_reducible assumption) | (with_reducible refine Below.alloc ?_ ?_ _) | (with_reducible refine Below.drew ?_) | (with_reducible refine Below.setCell ?_ ?_ _) | (with_reducible refine Below.trans ?_ (Below.mono (by assumption) ?_)) | go_size))

def is2 (a b c d : Int) : Bool := decide (a < c) && decide (c < b) && decide (b < d)
set_option maxRecDepth 100000 in
set_option maxHeartbeats 1600000 in
theorem ris_2 (a b c d : Int) (w : World) :
    Calls Try.prog 135 #[.int .i64 2, .agg #[.int .i64 a, .int .i64 b], .agg #[.int .i64 c, .int .i64 d]] w fun e w' => e = .returned (.bool (is2 a b c d)) ∧ Below w.heap.size w w' := by
  unfold is2
  by_cases g0 : a < c <;> by_cases g1 : c < b <;> by_cases g2 : b < d
  all_goals first | (exfalso; omega) | skip
  all_goals
    go_enter Try.func135, Try.ntmps135
    go_wp2
    go_ret
    refine ⟨by simp [*], ?_⟩
    (repeat' (first | (with_reducible exact Below.refl _ _) | (with_reducible assumption) | (with_reducible refine Below.alloc ?_ ?_ _) | (with_reducible refine Below.drew ?_) | (with_reducible refine Below.setCell ?_ ?_ _) | (with_reducible refine Below.trans ?_ (Below.mono (by assumption) ?_)) | go_size))

def is3 (a b c d : Int) : Bool := (a == c) && decide (b < d)
set_option maxRecDepth 100000 in
set_option maxHeartbeats 1600000 in
theorem ris_3 (a b c d : Int) (w : World) :
    Calls Try.prog 135 #[.int .i64 3, .agg #[.int .i64 a, .int .i64 b], .agg #[.int .i64 c, .int .i64 d]] w fun e w' => e = .returned (.bool (is3 a b c d)) ∧ Below w.heap.size w w' := by
  unfold is3
  cases g0 : (a == c) <;> by_cases g1 : b < d
  all_goals first | (exfalso; omega) | skip
  all_goals
    go_enter Try.func135, Try.ntmps135
    go_wp2
    go_ret
    refine ⟨by simp [*], ?_⟩
    (repeat' (first | (with_reducible exact Below.refl _ _) | (with_reducible assumption) | (with_reducible refine Below.alloc ?_ ?_ _) | (with_reducible refine Below.drew ?_) | (with_reducible refine Below.setCell ?_ ?_ _) | (with_reducible refine Below.trans ?_ (Below.mono (by assumption) ?_)) | go_size))

def is4 (a b c d : Int) : Bool := decide (c < a) && decide (b < d)
set_option maxRecDepth 100000 in
set_option maxHeartbeats 1600000 in
theorem ris_4 (a b c d : Int) (w : World) :
    Calls Try.prog 135 #[.int .i64 4, .agg #[.int .i64 a, .int .i64 b], .agg #[.int .i64 c, .int .i64 d]] w fun e w' => e = .returned (.bool (is4 a b c d)) ∧ Below w.heap.size w w' := by
  unfold is4
  by_cases g0 : c < a <;> by_cases g1 : b < d
  all_goals first | (exfalso; omega) | skip
  all_goals
    go_enter Try.func135, Try.ntmps135
    go_wp2
    go_ret
    refine ⟨by simp [*], ?_⟩
    (repeat' (first | (with_reducible exact Below.refl _ _) | (with_reducible assumption) | (with_reducible refine Below.alloc ?_ ?_ _) | (with_reducible refine Below.drew ?_) | (with_reducible refine Below.setCell ?_ ?_ _) | (with_reducible refine Below.trans ?_ (Below.mono (by assumption) ?_)) | go_size))

def is5 (a b c d : Int) : Bool := (b == d) && decide (c < a)
set_option maxRecDepth 100000 in
set_option maxHeartbeats 1600000 in
theorem ris_5 (a b c d : Int) (w : World) :
    Calls Try.prog 135 #[.int .i64 5, .agg #[.int .i64 a, .int .i64 b], .agg #[.int .i64 c, .int .i64 d]] w fun e w' => e = .returned (.bool (is5 a b c d)) ∧ Below w.heap.size w w' := by
  unfold is5
  cases g0 : (b == d) <;> by_cases g1 : c < a
  all_goals first | (exfalso; omega) | skip
  all_goals
    go_enter Try.func135, Try.ntmps135
    go_wp2
    go_ret
    refine ⟨by simp [*], ?_⟩
    (repeat' (first | (with_reducible exact Below.refl _ _) | (with_reducible assumption) | (with_reducible refine Below.alloc ?_ ?_ _) | (with_reducible refine Below.drew ?_) | (with_reducible refine Below.setCell ?_ ?_ _) | (with_reducible refine Below.trans ?_ (Below.mono (by assumption) ?_)) | go_size))

def is6 (a b c d : Int) : Bool := (a == c) && (b == d)
set_option maxRecDepth 100000 in
set_option maxHeartbeats 1600000 in
theorem ris_6 (a b c d : Int) (w : World) :
    Calls Try.prog 135 #[.int .i64 6, .agg #[.int .i64 a, .int .i64 b], .agg #[.int .i64 c, .int .i64 d]] w fun e w' => e = .returned (.bool (is6 a b c d)) ∧ Below w.heap.size w w' := by
  unfold is6
  cases g0 : (a == c) <;> cases g1 : (b == d)
  all_goals first | (exfalso; omega) | skip
  all_goals
    go_enter Try.func135, Try.ntmps135
    go_wp2
    go_ret
    refine ⟨by simp [*], ?_⟩
    (repeat' (first | (with_reducible exact Below.refl _ _) | (with_reducible assumption) | (with_reducible refine Below.alloc ?_ ?_ _) | (with_reducible refine Below.drew ?_) | (with_reducible refine Below.setCell ?_ ?_ _) | (with_reducible refine Below.trans ?_ (Below.mono (by assumption) ?_)) | go_size))

def is7 (a b c d : Int) : Bool := (b == d) && decide (a < c)
set_option maxRecDepth 100000 in
set_option maxHeartbeats 1600000 in
theorem ris_7 (a b c d : Int) (w : World) :
    Calls Try.prog 135 #[.int .i64 7, .agg #[.int .i64 a, .int .i64 b], .agg #[.int .i64 c, .int .i64 d]] w fun e w' => e = .returned (.bool (is7 a b c d)) ∧ Below w.heap.size w w' := by
  unfold is7
  cases g0 : (b == d) <;> by_cases g1 : a < c
  all_goals first | (exfalso; omega) | skip
  all_goals
    go_enter Try.func135, Try.ntmps135
    go_wp2
    go_ret
    refine ⟨by simp [*], ?_⟩
    (repeat' (first | (with_reducible exact Below.refl _ _) | (with_reducible assumption) | (with_reducible refine Below.alloc ?_ ?_ _) | (with_reducible refine Below.drew ?_) | (with_reducible refine Below.setCell ?_ ?_ _) | (with_reducible refine Below.trans ?_ (Below.mono (by assumption) ?_)) | go_size))

def is8 (a b c d : Int) : Bool := decide (a < c) && decide (d < b)
set_option maxRecDepth 100000 in
set_option maxHeartbeats 1600000 in
theorem ris_8 (a b c d : Int) (w : World) :
    Calls Try.prog 135 #[.int .i64 8, .agg #[.int .i64 a, .int .i64 b], .agg #[.int .i64 c, .int .i64 d]] w fun e w' => e = .returned (.bool (is8 a b c d)) ∧ Below w.heap.size w w' := by
  unfold is8
  by_cases g0 : a < c <;> by_cases g1 : d < b
  all_goals first | (exfalso; omega) | skip
  all_goals
    go_enter Try.func135, Try.ntmps135
    go_wp2
    go_ret
    refine ⟨by simp [*], ?_⟩
    (repeat' (first | (with_reducible exact Below.refl _ _) | (with_reducible assumption) | (with_reducible refine Below.alloc ?_ ?_ _) | (with_reducible refine Below.drew ?_) | (with_reducible refine Below.setCell ?_ ?_ _) | (with_reducible refine Below.trans ?_ (Below.mono (by assumption) ?_)) | go_size))

def is9 (a b c d : Int) : Bool := (a == c) && decide (d < b)
set_option maxRecDepth 100000 in
set_option maxHeartbeats 1600000 in
theorem ris_9 (a b c d : Int) (w : World) :
    Calls Try.prog 135 #[.int .i64 9, .agg #[.int .i64 a, .int .i64 b], .agg #[.int .i64 c, .int .i64 d]] w fun e w' => e = .returned (.bool (is9 a b c d)) ∧ Below w.heap.size w w' := by
  unfold is9
  cases g0 : (a == c) <;> by_cases g1 : d < b
  all_goals first | (exfalso; omega) | skip
  all_goals
    go_enter Try.func135, Try.ntmps135
    go_wp2
    go_ret
    refine ⟨by simp [*], ?_⟩
    (repeat' (first | (with_reducible exact Below.refl _ _) | (with_reducible assumption) | (with_reducible refine Below.alloc ?_ ?_ _) | (with_reducible refine Below.drew ?_) | (with_reducible refine Below.setCell ?_ ?_ _) | (with_reducible refine Below.trans ?_ (Below.mono (by assumption) ?_)) | go_size))

def is10 (a b c d : Int) : Bool := decide (c < a) && decide (a < d) && decide (d < b)
set_option maxRecDepth 100000 in
set_option maxHeartbeats 1600000 in
theorem ris_10 (a b c d : Int) (w : World) :
    Calls Try.prog 135 #[.int .i64 10, .agg #[.int .i64 a, .int .i64 b], .agg #[.int .i64 c, .int .i64 d]] w fun e w' => e = .returned (.bool (is10 a b c d)) ∧ Below w.heap.size w w' := by
  unfold is10
  by_cases g0 : c < a <;> by_cases g1 : a < d <;> by_cases g2 : d < b
  all_goals first | (exfalso; omega) | skip
  all_goals
    go_enter Try.func135, Try.ntmps135
    go_wp2
    go_ret
    refine ⟨by simp [*], ?_⟩
    (repeat' (first | (with_reducible exact Below.refl _ _) | (with_reducible assumption) | (with_reducible refine Below.alloc ?_ ?_ _) | (with_reducible refine Below.drew ?_) | (with_reducible refine Below.setCell ?_ ?_ _) | (with_reducible refine Below.trans ?_ (Below.mono (by assumption) ?_)) | go_size))

def is11 (a _b _c d : Int) : Bool := (d == a)
set_option maxRecDepth 100000 in
set_option maxHeartbeats 1600000 in
theorem ris_11 (a b c d : Int) (w : World) :
    Calls Try.prog 135 #[.int .i64 11, .agg #[.int .i64 a, .int .i64 b], .agg #[.int .i64 c, .int .i64 d]] w fun e w' => e = .returned (.bool (is11 a b c d)) ∧ Below w.heap.size w w' := by
  unfold is11
  cases g0 : (d == a)
  all_goals first | (exfalso; omega) | skip
  all_goals
    go_enter Try.func135, Try.ntmps135
    go_wp2
    go_ret
    refine ⟨by simp [*], ?_⟩
    (repeat' (first | (with_reducible exact Below.refl _ _) | (with_reducible assumption) | (with_reducible refine Below.alloc ?_ ?_ _) | (with_reducible refine Below.drew ?_) | (with_reducible refine Below.setCell ?_ ?_ _) | (with_reducible refine Below.trans ?_ (Below.mono (by assumption) ?_)) | go_size))

def is12 (a _b _c d : Int) : Bool := decide (d < a)
set_option maxRecDepth 100000 in
set_option maxHeartbeats 1600000 in
theorem ris_12 (a b c d : Int) (w : World) :
    Calls Try.prog 135 #[.int .i64 12, .agg #[.int .i64 a, .int .i64 b], .agg #[.int .i64 c, .int .i64 d]] w fun e w' => e = .returned (.bool (is12 a b c d)) ∧ Below w.heap.size w w' := by
  unfold is12
  by_cases g0 : d < a
  all_goals first | (exfalso; omega) | skip
  all_goals
    go_enter Try.func135, Try.ntmps135
    go_wp2
    go_ret
    refine ⟨by simp [*], ?_⟩
    (repeat' (first | (with_reducible exact Below.refl _ _) | (with_reducible assumption) | (with_reducible refine Below.alloc ?_ ?_ _) | (with_reducible refine Below.drew ?_) | (with_reducible refine Below.setCell ?_ ?_ _) | (with_reducible refine Below.trans ?_ (Below.mono (by assumption) ?_)) | go_size))
end Go.Proofs.Ytpiadcfejbnonaa.Aln
/-
  The statements' own Holds and Relation. Conditions: none.
-/
namespace Go.Proofs.Ytpiadcfejbnonaa.Aln
set_option linter.unusedVariables false
set_option linter.unusedSimpArgs false
set_option linter.unusedVariables false
set_option linter.unusedSimpArgs false
set_option linter.unusedVariables false
set_option linter.unusedSimpArgs false
set_option maxRecDepth 100000
open Go.RowKit

def isB (r a b c d : Int) : Bool :=
  if r = 0 then is0 a b c d
  else if r = 1 then is1 a b c d
  else if r = 2 then is2 a b c d
  else if r = 3 then is3 a b c d
  else if r = 4 then is4 a b c d
  else if r = 5 then is5 a b c d
  else if r = 6 then is6 a b c d
  else if r = 7 then is7 a b c d
  else if r = 8 then is8 a b c d
  else if r = 9 then is9 a b c d
  else if r = 10 then is10 a b c d
  else if r = 11 then is11 a b c d
  else if r = 12 then is12 a b c d
  else false

set_option maxRecDepth 100000 in
set_option maxHeartbeats 1600000 in
theorem ris_out (r a b c d : Int) (w : World) (h : r < 0 ∨ 12 < r) :
    Calls Try.prog 135 #[.int .i64 r, .agg #[.int .i64 a, .int .i64 b], .agg #[.int .i64 c, .int .i64 d]] w fun e w' => e = .returned (.bool false) ∧ Below w.heap.size w w' := by
  have k0 : (r == 0) = false := beq_eq_false_iff_ne.2 (by omega)
  have k1 : (r == 1) = false := beq_eq_false_iff_ne.2 (by omega)
  have k2 : (r == 2) = false := beq_eq_false_iff_ne.2 (by omega)
  have k3 : (r == 3) = false := beq_eq_false_iff_ne.2 (by omega)
  have k4 : (r == 4) = false := beq_eq_false_iff_ne.2 (by omega)
  have k5 : (r == 5) = false := beq_eq_false_iff_ne.2 (by omega)
  have k6 : (r == 6) = false := beq_eq_false_iff_ne.2 (by omega)
  have k7 : (r == 7) = false := beq_eq_false_iff_ne.2 (by omega)
  have k8 : (r == 8) = false := beq_eq_false_iff_ne.2 (by omega)
  have k9 : (r == 9) = false := beq_eq_false_iff_ne.2 (by omega)
  have k10 : (r == 10) = false := beq_eq_false_iff_ne.2 (by omega)
  have k11 : (r == 11) = false := beq_eq_false_iff_ne.2 (by omega)
  have k12 : (r == 12) = false := beq_eq_false_iff_ne.2 (by omega)
  clear h
  go_enter Try.func135, Try.ntmps135
  go_wp2
  go_ret
  refine ⟨rfl, ?_⟩
  (repeat' (first | (with_reducible exact Below.refl _ _) | (with_reducible assumption) | (with_reducible refine Below.alloc ?_ ?_ _) | (with_reducible refine Below.drew ?_) | (with_reducible refine Below.setCell ?_ ?_ _) | (with_reducible refine Below.trans ?_ (Below.mono (by assumption) ?_)) | go_size))
theorem ris_any (r a b c d : Int) (w : World) :
    Calls Try.prog 135 #[.int .i64 r, .agg #[.int .i64 a, .int .i64 b], .agg #[.int .i64 c, .int .i64 d]] w fun e w' => e = .returned (.bool (isB r a b c d)) ∧ Below w.heap.size w w' := by
  unfold isB
  by_cases h0 : r = 0
  · rw [if_pos h0]; subst h0; exact ris_0 a b c d w
  rw [if_neg h0]
  by_cases h1 : r = 1
  · rw [if_pos h1]; subst h1; exact ris_1 a b c d w
  rw [if_neg h1]
  by_cases h2 : r = 2
  · rw [if_pos h2]; subst h2; exact ris_2 a b c d w
  rw [if_neg h2]
  by_cases h3 : r = 3
  · rw [if_pos h3]; subst h3; exact ris_3 a b c d w
  rw [if_neg h3]
  by_cases h4 : r = 4
  · rw [if_pos h4]; subst h4; exact ris_4 a b c d w
  rw [if_neg h4]
  by_cases h5 : r = 5
  · rw [if_pos h5]; subst h5; exact ris_5 a b c d w
  rw [if_neg h5]
  by_cases h6 : r = 6
  · rw [if_pos h6]; subst h6; exact ris_6 a b c d w
  rw [if_neg h6]
  by_cases h7 : r = 7
  · rw [if_pos h7]; subst h7; exact ris_7 a b c d w
  rw [if_neg h7]
  by_cases h8 : r = 8
  · rw [if_pos h8]; subst h8; exact ris_8 a b c d w
  rw [if_neg h8]
  by_cases h9 : r = 9
  · rw [if_pos h9]; subst h9; exact ris_9 a b c d w
  rw [if_neg h9]
  by_cases h10 : r = 10
  · rw [if_pos h10]; subst h10; exact ris_10 a b c d w
  rw [if_neg h10]
  by_cases h11 : r = 11
  · rw [if_pos h11]; subst h11; exact ris_11 a b c d w
  rw [if_neg h11]
  by_cases h12 : r = 12
  · rw [if_pos h12]; subst h12; exact ris_12 a b c d w
  rw [if_neg h12]
  exact ris_out r a b c d w (by omega)

set_option maxHeartbeats 800000 in
theorem rholds_u (r a b c d : Int) (w : World) :
    Calls Try.prog 117 #[.int .i64 r, .agg #[.int .i64 a, .int .i64 b], .agg #[.int .i64 c, .int .i64 d]] w fun e w' => e = .returned (.bool (bothV a b c d && isB r a b c d)) ∧ Below w.heap.size w w' := by
  unfold bothV
  cases h1 : vld a b <;> cases h2 : vld c d <;> cases h3 : isB r a b c d
  all_goals
    go_enter Try.func117, Try.ntmps117
    go_wp2_with (first | (go_at_call 134; refine (rvalid_any _ _ _).mono ?_; rintro e w1 ⟨rfl, hb⟩; obtain ⟨hc, hf⟩ := bcell hb; have hz := hb.size; (try simp only [World.size_alloc] at hz); have hz0 : w.heap.size < w1.heap.size := (by omega); have hz1 : w.heap.size + 1 < w1.heap.size := (by omega)) | (go_at_call 135; refine (ris_any _ _ _ _ _ _).mono ?_; rintro e w1 ⟨rfl, hb⟩; obtain ⟨hc, hf⟩ := bcell hb; have hz := hb.size; (try simp only [World.size_alloc] at hz); have hz0 : w.heap.size < w1.heap.size := (by omega); have hz1 : w.heap.size + 1 < w1.heap.size := (by omega)))
    go_ret
    refine ⟨rfl, ?_⟩
    (repeat' (first | (with_reducible exact Below.refl _ _) | (with_reducible assumption) | (with_reducible refine Below.alloc ?_ ?_ _) | (with_reducible refine Below.drew ?_) | (with_reducible refine Below.setCell ?_ ?_ _) | (with_reducible refine Below.trans ?_ (Below.mono (by assumption) ?_)) | go_size))

theorem vld_le {a b : Int} (h : vld a b = true) : 0 ≤ a ∧ a < b ∧ b ≤ 1099511627776 := by simpa [vld, and_assoc] using h
theorem relV_range (a b c d : Int) : 0 ≤ relV a b c d ∧ relV a b c d ≤ 12 := by
  unfold relV ovAt; (repeat' split) <;> omega
/-- The same by plain comparisons. -/
def relW (a b c d : Int) : Int := if b < c then 0 else if b = c then 1 else if d = a then 11 else if d < a then 12 else
  if a < c then (if b < d then 2 else if b = d then 7 else 8) else if a = c then (if b < d then 3 else if b = d then 6 else 9) else (if b < d then 4 else if b = d then 5 else 10)
theorem sgn_lt {a b : Int} (h : a < b) : sgn a b = -1 := by unfold sgn; rw [if_pos h]
theorem sgn_gt {a b : Int} (h : b < a) : sgn a b = 1 := by unfold sgn; rw [if_neg (by omega), if_pos h]
theorem sgn_eq (a : Int) : sgn a a = 0 := by unfold sgn; rw [if_neg (by omega), if_neg (by omega)]
theorem relV_eq (a b c d : Int) : relV a b c d = relW a b c d := by
  unfold relV relW
  have e : ovAt (sgn a c) (sgn b d) = if a < c then (if b < d then 2 else if b = d then 7 else 8) else if a = c then (if b < d then 3 else if b = d then 6 else 9) else (if b < d then 4 else if b = d then 5 else 10) := by
    rcases Int.lt_trichotomy a c with h | h | h <;> rcases Int.lt_trichotomy b d with g | g | g
    · rw [sgn_lt h, sgn_lt g, if_pos h, if_pos g]; rfl
    · subst g; rw [sgn_lt h, sgn_eq, if_pos h, if_neg (by omega), if_pos rfl]; rfl
    · rw [sgn_lt h, sgn_gt g, if_pos h, if_neg (by omega), if_neg (by omega)]; rfl
    · subst h; rw [sgn_eq, sgn_lt g, if_neg (by omega), if_pos rfl, if_pos g]; rfl
    · subst h; subst g; rw [sgn_eq, sgn_eq, if_neg (by omega), if_pos rfl, if_neg (by omega), if_pos rfl]; rfl
    · subst h; rw [sgn_eq, sgn_gt g, if_neg (by omega), if_pos rfl, if_neg (by omega), if_neg (by omega)]; rfl
    · rw [sgn_gt h, sgn_lt g, if_neg (by omega), if_neg (by omega), if_pos g]; rfl
    · subst g; rw [sgn_gt h, sgn_eq, if_neg (by omega), if_neg (by omega), if_neg (by omega), if_pos rfl]; rfl
    · rw [sgn_gt h, sgn_gt g, if_neg (by omega), if_neg (by omega), if_neg (by omega), if_neg (by omega)]; rfl
  rw [e]
theorem isr_0 {a b c d : Int} (_h1 : a < b) (_h2 : c < d) : is0 a b c d = true ↔ relW a b c d = 0 := by
  unfold is0 relW
  simp only [decide_eq_true_eq]
  (repeat' split) <;> omega
theorem isr_1 {a b c d : Int} (_h1 : a < b) (_h2 : c < d) : is1 a b c d = true ↔ relW a b c d = 1 := by
  unfold is1 relW
  simp only [beq_iff_eq]
  (repeat' split) <;> omega
theorem isr_2 {a b c d : Int} (_h1 : a < b) (_h2 : c < d) : is2 a b c d = true ↔ relW a b c d = 2 := by
  unfold is2 relW
  simp only [Bool.and_eq_true, decide_eq_true_eq]
  (repeat' split) <;> omega
theorem isr_3 {a b c d : Int} (_h1 : a < b) (_h2 : c < d) : is3 a b c d = true ↔ relW a b c d = 3 := by
  unfold is3 relW
  simp only [Bool.and_eq_true, decide_eq_true_eq, beq_iff_eq]
  (repeat' split) <;> omega
theorem isr_4 {a b c d : Int} (_h1 : a < b) (_h2 : c < d) : is4 a b c d = true ↔ relW a b c d = 4 := by
  unfold is4 relW
  simp only [Bool.and_eq_true, decide_eq_true_eq]
  (repeat' split) <;> omega
theorem isr_5 {a b c d : Int} (_h1 : a < b) (_h2 : c < d) : is5 a b c d = true ↔ relW a b c d = 5 := by
  unfold is5 relW
  simp only [Bool.and_eq_true, decide_eq_true_eq, beq_iff_eq]
  (repeat' split) <;> omega
theorem isr_6 {a b c d : Int} (_h1 : a < b) (_h2 : c < d) : is6 a b c d = true ↔ relW a b c d = 6 := by
  unfold is6 relW
  simp only [Bool.and_eq_true, beq_iff_eq]
  (repeat' split) <;> omega
theorem isr_7 {a b c d : Int} (_h1 : a < b) (_h2 : c < d) : is7 a b c d = true ↔ relW a b c d = 7 := by
  unfold is7 relW
  simp only [Bool.and_eq_true, decide_eq_true_eq, beq_iff_eq]
  (repeat' split) <;> omega
theorem isr_8 {a b c d : Int} (_h1 : a < b) (_h2 : c < d) : is8 a b c d = true ↔ relW a b c d = 8 := by
  unfold is8 relW
  simp only [Bool.and_eq_true, decide_eq_true_eq]
  (repeat' split) <;> omega
theorem isr_9 {a b c d : Int} (_h1 : a < b) (_h2 : c < d) : is9 a b c d = true ↔ relW a b c d = 9 := by
  unfold is9 relW
  simp only [Bool.and_eq_true, decide_eq_true_eq, beq_iff_eq]
  (repeat' split) <;> omega
theorem isr_10 {a b c d : Int} (_h1 : a < b) (_h2 : c < d) : is10 a b c d = true ↔ relW a b c d = 10 := by
  unfold is10 relW
  simp only [Bool.and_eq_true, decide_eq_true_eq]
  (repeat' split) <;> omega
theorem isr_11 {a b c d : Int} (_h1 : a < b) (_h2 : c < d) : is11 a b c d = true ↔ relW a b c d = 11 := by
  unfold is11 relW
  simp only [beq_iff_eq]
  (repeat' split) <;> omega
theorem isr_12 {a b c d : Int} (_h1 : a < b) (_h2 : c < d) : is12 a b c d = true ↔ relW a b c d = 12 := by
  unfold is12 relW
  simp only [decide_eq_true_eq]
  (repeat' split) <;> omega
theorem isB_rel {a b c d : Int} (h : bothV a b c d = true) (r : Int) : isB r a b c d = (relV a b c d == r) := by
  unfold bothV at h
  rw [Bool.and_eq_true] at h
  have h1 := (vld_le h.1).2.1
  have h2 := (vld_le h.2).2.1
  rw [Bool.eq_iff_iff, beq_iff_eq]
  have hr := relV_range a b c d
  rw [relV_eq] at hr ⊢
  unfold isB
  by_cases g0 : r = 0
  · rw [if_pos g0]; subst g0; exact isr_0 h1 h2
  rw [if_neg g0]
  by_cases g1 : r = 1
  · rw [if_pos g1]; subst g1; exact isr_1 h1 h2
  rw [if_neg g1]
  by_cases g2 : r = 2
  · rw [if_pos g2]; subst g2; exact isr_2 h1 h2
  rw [if_neg g2]
  by_cases g3 : r = 3
  · rw [if_pos g3]; subst g3; exact isr_3 h1 h2
  rw [if_neg g3]
  by_cases g4 : r = 4
  · rw [if_pos g4]; subst g4; exact isr_4 h1 h2
  rw [if_neg g4]
  by_cases g5 : r = 5
  · rw [if_pos g5]; subst g5; exact isr_5 h1 h2
  rw [if_neg g5]
  by_cases g6 : r = 6
  · rw [if_pos g6]; subst g6; exact isr_6 h1 h2
  rw [if_neg g6]
  by_cases g7 : r = 7
  · rw [if_pos g7]; subst g7; exact isr_7 h1 h2
  rw [if_neg g7]
  by_cases g8 : r = 8
  · rw [if_pos g8]; subst g8; exact isr_8 h1 h2
  rw [if_neg g8]
  by_cases g9 : r = 9
  · rw [if_pos g9]; subst g9; exact isr_9 h1 h2
  rw [if_neg g9]
  by_cases g10 : r = 10
  · rw [if_pos g10]; subst g10; exact isr_10 h1 h2
  rw [if_neg g10]
  by_cases g11 : r = 11
  · rw [if_pos g11]; subst g11; exact isr_11 h1 h2
  rw [if_neg g11]
  by_cases g12 : r = 12
  · rw [if_pos g12]; subst g12; exact isr_12 h1 h2
  rw [if_neg g12]
  constructor
  · intro e; cases e
  · intro e; omega

theorem rholds_any (r a b c d : Int) (w : World) :
    Calls Try.prog 117 #[.int .i64 r, .agg #[.int .i64 a, .int .i64 b], .agg #[.int .i64 c, .int .i64 d]] w fun e w' => e = .returned (.bool (holdsR r a b c d)) ∧ Below w.heap.size w w' := by
  have e : holdsR r a b c d = (bothV a b c d && isB r a b c d) := by
    unfold holdsR relR
    cases h : bothV a b c d
    · rfl
    · rw [isB_rel h]; rfl
  rw [e]; exact rholds_u r a b c d w
end Go.Proofs.Ytpiadcfejbnonaa.Aln
/-
  The reference's Relation of two periods. Conditions: none.
-/
namespace Go.Proofs.Ytpiadcfejbnonaa.Aln
set_option linter.unusedVariables false
set_option linter.unusedSimpArgs false
set_option linter.unusedVariables false
set_option linter.unusedSimpArgs false
set_option linter.unusedVariables false
set_option linter.unusedSimpArgs false
set_option maxRecDepth 100000
open Go.RowKit

theorem relR_lt (a b c d : Int) : 0 ≤ relR a b c d ∧ relR a b c d < 13 := by
  unfold relR relV ovAt
  repeat' split
  all_goals omega
set_option maxRecDepth 100000 in
set_option maxHeartbeats 1600000 in
theorem rrel_any (a b c d : Int) (w : World) :
    Calls Try.prog 101 #[.agg #[.int .i64 a, .int .i64 b], .agg #[.int .i64 c, .int .i64 d]] w fun e w' => e = .returned (.tuple #[.int .i64 (relR a b c d), .bool (bothV a b c d)]) ∧ Below w.heap.size w w' := by
  have oP : Own ((w.alloc (.cells #[.int .i64 a, .int .i64 b] 95)).alloc (.cells #[.int .i64 c, .int .i64 d] 95)) w.heap.size 95 #[.int .i64 a, .int .i64 b] := (Own.new w _ _).alloc _
  have oQ : Own ((w.alloc (.cells #[.int .i64 a, .int .i64 b] 95)).alloc (.cells #[.int .i64 c, .int .i64 d] 95)) (w.heap.size + 1) 95 #[.int .i64 c, .int .i64 d] := (by have := Own.new (w.alloc (.cells #[.int .i64 a, .int .i64 b] 95)) 95 #[.int .i64 c, .int .i64 d]; rw [World.size_alloc] at this; exact this)
  have oB : Below w.heap.size w ((w.alloc (.cells #[.int .i64 a, .int .i64 b] 95)).alloc (.cells #[.int .i64 c, .int .i64 d] 95)) := (by (repeat' (first | (with_reducible exact Below.refl _ _) | (with_reducible assumption) | (with_reducible refine Below.alloc ?_ ?_ _) | (with_reducible refine Below.drew ?_) | (with_reducible refine Below.setCell ?_ ?_ _) | (with_reducible refine Below.trans ?_ (Below.mono (by assumption) ?_)) | go_size)))
  have lr := relR_lt a b c d
  go_enter Try.func101, Try.ntmps101
  go_wp2
  generalize (w.alloc (.cells #[.int .i64 a, .int .i64 b] 95)).alloc (.cells #[.int .i64 c, .int .i64 d] 95) = W at *
  go_loopw [6] (fun i wr => ∃ k : Nat, k ≤ 13 ∧ i = .int .i64 k ∧ (bothV a b c d = true → (k : Int) ≤ relR a b c d) ∧ Own wr w.heap.size 95 #[.int .i64 a, .int .i64 b] ∧ Own wr (w.heap.size + 1) 95 #[.int .i64 c, .int .i64 d] ∧ Below w.heap.size w wr) (fun i _ => 13 - (intOf i).toNat)
  case atStart => exact ⟨0, by omega, rfl, fun _ => lr.1, oP, oQ, oB⟩
  case round =>
    obtain ⟨k, hk, rfl, hno, P, Q, hbr⟩ := hrel
    have hbz := hbr.size
    by_cases hlt : k < 13
    · have p0 := P.cell 0
      have p1 := P.cell 1
      have q0 := Q.cell 0
      have q1 := Q.cell 1
      have HR := rholds_any (k : Int) a b c d
      cases hh : holdsR (k : Int) a b c d
      · have hno2 : Hid (bothV a b c d = true → ((k + 1 : Nat) : Int) ≤ relR a b c d) := Lib.hid (fun hb => by
          have h1 := hno hb
          unfold holdsR at hh
          rw [hb, Bool.true_and] at hh
          have h2 := beq_eq_false_iff_ne.1 hh
          omega)
        rw [hh] at HR
        clear hno hh
        go_wp2_with (go_at_call 117; refine (HR _).mono ?_; rintro e w1 ⟨rfl, hb1⟩)
        go_roundw
        case rel => exact ⟨k + 1, by omega, by go_num, hno2.out, P.below hb1 P.lt, Q.below hb1 Q.lt, hbr.trans (hb1.mono hbz)⟩
        case measure => simp [intOf]; omega
      · have hE : Hid ((relR a b c d = (k : Int)) ∧ bothV a b c d = true) := Lib.hid (by
          unfold holdsR at hh
          rw [Bool.and_eq_true] at hh
          exact ⟨beq_iff_eq.1 hh.2, hh.1⟩)
        rw [hh] at HR
        clear hno hh
        go_wp2_with (go_at_call 117; refine (HR _).mono ?_; rintro e w1 ⟨rfl, hb1⟩)
        go_ret2
        exact ⟨by rw [hE.out.1, hE.out.2]; rfl, hbr.trans (hb1.mono hbz)⟩
    · have hkl : k = 13 := by omega
      subst hkl
      have hE : Hid ((relR a b c d = 0) ∧ bothV a b c d = false) := Lib.hid (by
        have hbv : bothV a b c d = false := by
          cases hb : bothV a b c d
          · rfl
          · have := hno hb; omega
        exact ⟨by unfold relR; rw [hbv]; rfl, hbv⟩)
      clear hno
      go_wp2
      go_ret2
      exact ⟨by rw [hE.out.1, hE.out.2]; rfl, hbr⟩
end Go.Proofs.Ytpiadcfejbnonaa.Aln
