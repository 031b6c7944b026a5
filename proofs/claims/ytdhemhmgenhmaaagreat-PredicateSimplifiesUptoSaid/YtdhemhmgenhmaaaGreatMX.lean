import Derived.Test.YtdhemhmgenhmaaaGreatProg
import Derived.Test.YtdhemhmgenhmaaaGreatMA
import Derived.Deep.RegionHeld3
import Derived.WalkSmall
import Derived.WalkKit
import Derived.WalkSpells
import Derived.WalkLawsBesides
import Derived.Deep.QuietTactic
import Derived.BigQuiet
import Derived.Handy
import Derived.Lib.Hide
set_option maxRecDepth 100000
set_option maxHeartbeats 25600000
set_option linter.unusedVariables false
set_option linter.unusedSimpArgs false
/-
  Contracts of Allen's relations: the number of a relation, its inverse, the relation of two periods. Conditions: none.
-/
namespace Go.Proofs.YtdhemhmgenhmaaaGreat.Aln
open Go.RowKit
theorem valid_any (a b : Int) (w : World) :
  Calls Tryz.prog 81 #[.agg #[.int .i64 a, .int .i64 b]] w fun e w' => e = .returned (.bool (vld a b)) ∧ Below w.heap.size w w' := by
 unfold vld
 by_cases h1 : 0 ≤ a <;> by_cases h2 : a < b <;> by_cases h3 : b ≤ 1099511627776
 all_goals first | (exfalso; omega) | skip
 all_goals
  go_enter Tryz.func81, Tryz.ntmps81
  go_wp2
  go_ret
  exact ⟨by simp [*], (Below.refl _ _).alloc (Nat.le_refl _) _⟩
theorem rvalid_any (a b : Int) (w : World) :
  Calls Tryz.prog 128 #[.agg #[.int .i64 a, .int .i64 b]] w fun e w' => e = .returned (.bool (vld a b)) ∧ Below w.heap.size w w' := by
 unfold vld
 by_cases h1 : 0 ≤ a <;> by_cases h2 : a < b <;> by_cases h3 : b ≤ 1099511627776
 all_goals first | (exfalso; omega) | skip
 all_goals
  go_enter Tryz.func128, Tryz.ntmps128
  go_wp2
  go_ret
  exact ⟨by simp [*], (Below.refl _ _).alloc (Nat.le_refl _) _⟩
def sgn (a b : Int) : Int := if a < b then -1 else if b < a then 1 else 0
theorem cmp_any (a b : Int) (w : World) :
  Calls Tryz.prog 130 #[.int .i64 a, .int .i64 b] w fun e w' => e = .returned (.int .i64 (sgn a b)) ∧ w' = w := by
 unfold sgn
 rcases Int.lt_trichotomy a b with h | h | h
 ·rw [if_pos h]
  go_enter Tryz.func130, Tryz.ntmps130
  go_wp2
  go_ret
  exact ⟨rfl, rfl⟩
 ·subst h
  rw [if_neg (by omega), if_neg (by omega)]
  go_enter Tryz.func130, Tryz.ntmps130
  go_wp2
  go_ret
  exact ⟨rfl, rfl⟩
 ·rw [if_neg (by omega), if_pos h]
  go_enter Tryz.func130, Tryz.ntmps130
  go_wp2
  go_ret
  exact ⟨rfl, rfl⟩
def ovAt (x y : Int) : Int := if x < 0 then (if y < 0 then 2 else if y = 0 then 7 else 8) else if x = 0 then (if y < 0 then 3 else if y = 0 then 6 else 9) else (if y < 0 then 4 else if y = 0 then 5 else 10)
theorem sgn_vals (a b : Int) : sgn a b = -1 ∨ sgn a b = 0 ∨ sgn a b = 1 := by unfold sgn; repeat' split; all_goals omega
end Go.Proofs.YtdhemhmgenhmaaaGreat.Aln
namespace Go.Proofs.YtdhemhmgenhmaaaGreat.Aln
open Go.RowKit
theorem ov_nn (a b c d : Int) (w : World) (h1 : sgn a c = -1) (h2 : sgn b d = -1) :
  Calls Tryz.prog 126 #[.agg #[.int .i64 a, .int .i64 b], .agg #[.int .i64 c, .int .i64 d]] w fun e w' => e = .returned (.int .i64 2) ∧ Below w.heap.size w w' := by
 go_enter Tryz.func126, Tryz.ntmps126
 go_wp2
 go_quiet ((go_at_call 130; exact Calls.quiet_of_same (cmp_any _ _ _)))
 go_wp2
 go_ret
 refine ⟨rfl, ?_⟩
 refine below_drewN ?_ _
 (repeat' first | (with_reducible first | exact Below.refl _ _ | assumption | refine Below.alloc ?_ ?_ _ | refine Below.drew ?_ | refine Below.setCell ?_ ?_ _ | refine Below.trans ?_ (Below.mono (by assumption) ?_)) | go_size)
theorem ov_nz (a b c d : Int) (w : World) (h1 : sgn a c = -1) (h2 : sgn b d = 0) :
  Calls Tryz.prog 126 #[.agg #[.int .i64 a, .int .i64 b], .agg #[.int .i64 c, .int .i64 d]] w fun e w' => e = .returned (.int .i64 7) ∧ Below w.heap.size w w' := by
 go_enter Tryz.func126, Tryz.ntmps126
 go_wp2
 go_quiet ((go_at_call 130; exact Calls.quiet_of_same (cmp_any _ _ _)))
 go_wp2
 go_ret
 refine ⟨rfl, ?_⟩
 refine below_drewN ?_ _
 (repeat' first | (with_reducible first | exact Below.refl _ _ | assumption | refine Below.alloc ?_ ?_ _ | refine Below.drew ?_ | refine Below.setCell ?_ ?_ _ | refine Below.trans ?_ (Below.mono (by assumption) ?_)) | go_size)
theorem ov_np (a b c d : Int) (w : World) (h1 : sgn a c = -1) (h2 : sgn b d = 1) :
  Calls Tryz.prog 126 #[.agg #[.int .i64 a, .int .i64 b], .agg #[.int .i64 c, .int .i64 d]] w fun e w' => e = .returned (.int .i64 8) ∧ Below w.heap.size w w' := by
 go_enter Tryz.func126, Tryz.ntmps126
 go_wp2
 go_quiet ((go_at_call 130; exact Calls.quiet_of_same (cmp_any _ _ _)))
 go_wp2
 go_ret
 refine ⟨rfl, ?_⟩
 refine below_drewN ?_ _
 (repeat' first | (with_reducible first | exact Below.refl _ _ | assumption | refine Below.alloc ?_ ?_ _ | refine Below.drew ?_ | refine Below.setCell ?_ ?_ _ | refine Below.trans ?_ (Below.mono (by assumption) ?_)) | go_size)
theorem ov_zn (a b c d : Int) (w : World) (h1 : sgn a c = 0) (h2 : sgn b d = -1) :
  Calls Tryz.prog 126 #[.agg #[.int .i64 a, .int .i64 b], .agg #[.int .i64 c, .int .i64 d]] w fun e w' => e = .returned (.int .i64 3) ∧ Below w.heap.size w w' := by
 go_enter Tryz.func126, Tryz.ntmps126
 go_wp2
 go_quiet ((go_at_call 130; exact Calls.quiet_of_same (cmp_any _ _ _)))
 go_wp2
 go_ret
 refine ⟨rfl, ?_⟩
 refine below_drewN ?_ _
 (repeat' first | (with_reducible first | exact Below.refl _ _ | assumption | refine Below.alloc ?_ ?_ _ | refine Below.drew ?_ | refine Below.setCell ?_ ?_ _ | refine Below.trans ?_ (Below.mono (by assumption) ?_)) | go_size)
theorem ov_zz (a b c d : Int) (w : World) (h1 : sgn a c = 0) (h2 : sgn b d = 0) :
  Calls Tryz.prog 126 #[.agg #[.int .i64 a, .int .i64 b], .agg #[.int .i64 c, .int .i64 d]] w fun e w' => e = .returned (.int .i64 6) ∧ Below w.heap.size w w' := by
 go_enter Tryz.func126, Tryz.ntmps126
 go_wp2
 go_quiet ((go_at_call 130; exact Calls.quiet_of_same (cmp_any _ _ _)))
 go_wp2
 go_ret
 refine ⟨rfl, ?_⟩
 refine below_drewN ?_ _
 (repeat' first | (with_reducible first | exact Below.refl _ _ | assumption | refine Below.alloc ?_ ?_ _ | refine Below.drew ?_ | refine Below.setCell ?_ ?_ _ | refine Below.trans ?_ (Below.mono (by assumption) ?_)) | go_size)
theorem ov_zp (a b c d : Int) (w : World) (h1 : sgn a c = 0) (h2 : sgn b d = 1) :
  Calls Tryz.prog 126 #[.agg #[.int .i64 a, .int .i64 b], .agg #[.int .i64 c, .int .i64 d]] w fun e w' => e = .returned (.int .i64 9) ∧ Below w.heap.size w w' := by
 go_enter Tryz.func126, Tryz.ntmps126
 go_wp2
 go_quiet ((go_at_call 130; exact Calls.quiet_of_same (cmp_any _ _ _)))
 go_wp2
 go_ret
 refine ⟨rfl, ?_⟩
 refine below_drewN ?_ _
 (repeat' first | (with_reducible first | exact Below.refl _ _ | assumption | refine Below.alloc ?_ ?_ _ | refine Below.drew ?_ | refine Below.setCell ?_ ?_ _ | refine Below.trans ?_ (Below.mono (by assumption) ?_)) | go_size)
theorem ov_pn (a b c d : Int) (w : World) (h1 : sgn a c = 1) (h2 : sgn b d = -1) :
  Calls Tryz.prog 126 #[.agg #[.int .i64 a, .int .i64 b], .agg #[.int .i64 c, .int .i64 d]] w fun e w' => e = .returned (.int .i64 4) ∧ Below w.heap.size w w' := by
 go_enter Tryz.func126, Tryz.ntmps126
 go_wp2
 go_quiet ((go_at_call 130; exact Calls.quiet_of_same (cmp_any _ _ _)))
 go_wp2
 go_ret
 refine ⟨rfl, ?_⟩
 refine below_drewN ?_ _
 (repeat' first | (with_reducible first | exact Below.refl _ _ | assumption | refine Below.alloc ?_ ?_ _ | refine Below.drew ?_ | refine Below.setCell ?_ ?_ _ | refine Below.trans ?_ (Below.mono (by assumption) ?_)) | go_size)
theorem ov_pz (a b c d : Int) (w : World) (h1 : sgn a c = 1) (h2 : sgn b d = 0) :
  Calls Tryz.prog 126 #[.agg #[.int .i64 a, .int .i64 b], .agg #[.int .i64 c, .int .i64 d]] w fun e w' => e = .returned (.int .i64 5) ∧ Below w.heap.size w w' := by
 go_enter Tryz.func126, Tryz.ntmps126
 go_wp2
 go_quiet ((go_at_call 130; exact Calls.quiet_of_same (cmp_any _ _ _)))
 go_wp2
 go_ret
 refine ⟨rfl, ?_⟩
 refine below_drewN ?_ _
 (repeat' first | (with_reducible first | exact Below.refl _ _ | assumption | refine Below.alloc ?_ ?_ _ | refine Below.drew ?_ | refine Below.setCell ?_ ?_ _ | refine Below.trans ?_ (Below.mono (by assumption) ?_)) | go_size)
theorem ov_pp (a b c d : Int) (w : World) (h1 : sgn a c = 1) (h2 : sgn b d = 1) :
  Calls Tryz.prog 126 #[.agg #[.int .i64 a, .int .i64 b], .agg #[.int .i64 c, .int .i64 d]] w fun e w' => e = .returned (.int .i64 10) ∧ Below w.heap.size w w' := by
 go_enter Tryz.func126, Tryz.ntmps126
 go_wp2
 go_quiet ((go_at_call 130; exact Calls.quiet_of_same (cmp_any _ _ _)))
 go_wp2
 go_ret
 refine ⟨rfl, ?_⟩
 refine below_drewN ?_ _
 (repeat' first | (with_reducible first | exact Below.refl _ _ | assumption | refine Below.alloc ?_ ?_ _ | refine Below.drew ?_ | refine Below.setCell ?_ ?_ _ | refine Below.trans ?_ (Below.mono (by assumption) ?_)) | go_size)
theorem ov_any (a b c d : Int) (w : World) :
  Calls Tryz.prog 126 #[.agg #[.int .i64 a, .int .i64 b], .agg #[.int .i64 c, .int .i64 d]] w fun e w' => e = .returned (.int .i64 (ovAt (sgn a c) (sgn b d))) ∧ Below w.heap.size w w' := by
 rcases sgn_vals a c with h1 | h1 | h1 <;> rcases sgn_vals b d with h2 | h2 | h2 <;> rw [h1, h2]
 ·exact ov_nn a b c d w h1 h2
 ·exact ov_nz a b c d w h1 h2
 ·exact ov_np a b c d w h1 h2
 ·exact ov_zn a b c d w h1 h2
 ·exact ov_zz a b c d w h1 h2
 ·exact ov_zp a b c d w h1 h2
 ·exact ov_pn a b c d w h1 h2
 ·exact ov_pz a b c d w h1 h2
 ·exact ov_pp a b c d w h1 h2
end Go.Proofs.YtdhemhmgenhmaaaGreat.Aln
namespace Go.Proofs.YtdhemhmgenhmaaaGreat.Aln
open Go.RowKit
def relV (a b c d : Int) : Int := if b < c then 0 else if b = c then 1 else if d = a then 11 else if d < a then 12 else ovAt (sgn a c) (sgn b d)
def bothV (a b c d : Int) : Bool := vld a b && vld c d
def relR (a b c d : Int) : Int := if bothV a b c d then relV a b c d else 0
def relRes (a b c d : Int) : Value := .tuple #[.int .i64 (relR a b c d), .bool (bothV a b c d)]
theorem rel_bad1 (a b c d : Int) (w : World) (h1 : vld a b = false) :
  Calls Tryz.prog 103 #[.agg #[.int .i64 a, .int .i64 b], .agg #[.int .i64 c, .int .i64 d]] w fun e w' => e = .returned (.tuple #[.int .i64 (0), .bool false]) ∧ Below w.heap.size w w' := by
 go_enter Tryz.func103, Tryz.ntmps103
 go_wp2_with (first | (go_at_call 81; refine (valid_any _ _ _).mono ?_; rintro e w1 ⟨rfl, hb⟩; obtain ⟨hc, hf⟩ := bcell hb; have hz := hb.size; (try simp only [World.size_alloc] at hz); have hz0 : w.heap.size < w1.heap.size := (by omega); have hz1 : w.heap.size + 1 < w1.heap.size := (by omega)) | (go_at_call 126; refine (ov_any _ _ _ _ _).mono ?_; rintro e w1 ⟨rfl, hb⟩; obtain ⟨hc, hf⟩ := bcell hb; have hz := hb.size; (try simp only [World.size_alloc] at hz); have hz0 : w.heap.size < w1.heap.size := (by omega); have hz1 : w.heap.size + 1 < w1.heap.size := (by omega)))
 go_ret2
 refine ⟨rfl, ?_⟩
 (repeat' first | (with_reducible first | exact Below.refl _ _ | assumption | refine Below.alloc ?_ ?_ _ | refine Below.drew ?_ | refine Below.setCell ?_ ?_ _ | refine Below.trans ?_ (Below.mono (by assumption) ?_)) | go_size)
theorem rel_bad2 (a b c d : Int) (w : World) (h1 : vld a b = true) (h2 : vld c d = false) :
  Calls Tryz.prog 103 #[.agg #[.int .i64 a, .int .i64 b], .agg #[.int .i64 c, .int .i64 d]] w fun e w' => e = .returned (.tuple #[.int .i64 (0), .bool false]) ∧ Below w.heap.size w w' := by
 go_enter Tryz.func103, Tryz.ntmps103
 go_wp2_with (first | (go_at_call 81; refine (valid_any _ _ _).mono ?_; rintro e w1 ⟨rfl, hb⟩; obtain ⟨hc, hf⟩ := bcell hb; have hz := hb.size; (try simp only [World.size_alloc] at hz); have hz0 : w.heap.size < w1.heap.size := (by omega); have hz1 : w.heap.size + 1 < w1.heap.size := (by omega)) | (go_at_call 126; refine (ov_any _ _ _ _ _).mono ?_; rintro e w1 ⟨rfl, hb⟩; obtain ⟨hc, hf⟩ := bcell hb; have hz := hb.size; (try simp only [World.size_alloc] at hz); have hz0 : w.heap.size < w1.heap.size := (by omega); have hz1 : w.heap.size + 1 < w1.heap.size := (by omega)))
 go_ret2
 refine ⟨rfl, ?_⟩
 (repeat' first | (with_reducible first | exact Below.refl _ _ | assumption | refine Below.alloc ?_ ?_ _ | refine Below.drew ?_ | refine Below.setCell ?_ ?_ _ | refine Below.trans ?_ (Below.mono (by assumption) ?_)) | go_size)
theorem rel_before (a b c d : Int) (w : World) (h1 : vld a b = true) (h2 : vld c d = true) (h : b < c) :
  Calls Tryz.prog 103 #[.agg #[.int .i64 a, .int .i64 b], .agg #[.int .i64 c, .int .i64 d]] w fun e w' => e = .returned (.tuple #[.int .i64 (0), .bool true]) ∧ Below w.heap.size w w' := by
 go_enter Tryz.func103, Tryz.ntmps103
 go_wp2_with (first | (go_at_call 81; refine (valid_any _ _ _).mono ?_; rintro e w1 ⟨rfl, hb⟩; obtain ⟨hc, hf⟩ := bcell hb; have hz := hb.size; (try simp only [World.size_alloc] at hz); have hz0 : w.heap.size < w1.heap.size := (by omega); have hz1 : w.heap.size + 1 < w1.heap.size := (by omega)) | (go_at_call 126; refine (ov_any _ _ _ _ _).mono ?_; rintro e w1 ⟨rfl, hb⟩; obtain ⟨hc, hf⟩ := bcell hb; have hz := hb.size; (try simp only [World.size_alloc] at hz); have hz0 : w.heap.size < w1.heap.size := (by omega); have hz1 : w.heap.size + 1 < w1.heap.size := (by omega)))
 go_ret2
 refine ⟨rfl, ?_⟩
 (repeat' first | (with_reducible first | exact Below.refl _ _ | assumption | refine Below.alloc ?_ ?_ _ | refine Below.drew ?_ | refine Below.setCell ?_ ?_ _ | refine Below.trans ?_ (Below.mono (by assumption) ?_)) | go_size)
theorem rel_meets (a b c d : Int) (w : World) (h1 : vld a b = true) (h2 : vld c d = true) (h : ¬ b < c) (k : (b == c) = true) :
  Calls Tryz.prog 103 #[.agg #[.int .i64 a, .int .i64 b], .agg #[.int .i64 c, .int .i64 d]] w fun e w' => e = .returned (.tuple #[.int .i64 (1), .bool true]) ∧ Below w.heap.size w w' := by
 go_enter Tryz.func103, Tryz.ntmps103
 go_wp2_with (first | (go_at_call 81; refine (valid_any _ _ _).mono ?_; rintro e w1 ⟨rfl, hb⟩; obtain ⟨hc, hf⟩ := bcell hb; have hz := hb.size; (try simp only [World.size_alloc] at hz); have hz0 : w.heap.size < w1.heap.size := (by omega); have hz1 : w.heap.size + 1 < w1.heap.size := (by omega)) | (go_at_call 126; refine (ov_any _ _ _ _ _).mono ?_; rintro e w1 ⟨rfl, hb⟩; obtain ⟨hc, hf⟩ := bcell hb; have hz := hb.size; (try simp only [World.size_alloc] at hz); have hz0 : w.heap.size < w1.heap.size := (by omega); have hz1 : w.heap.size + 1 < w1.heap.size := (by omega)))
 go_ret2
 refine ⟨rfl, ?_⟩
 (repeat' first | (with_reducible first | exact Below.refl _ _ | assumption | refine Below.alloc ?_ ?_ _ | refine Below.drew ?_ | refine Below.setCell ?_ ?_ _ | refine Below.trans ?_ (Below.mono (by assumption) ?_)) | go_size)
theorem rel_metby (a b c d : Int) (w : World) (h1 : vld a b = true) (h2 : vld c d = true) (h : ¬ b < c) (k : (b == c) = false) (k2 : (d == a) = true) :
  Calls Tryz.prog 103 #[.agg #[.int .i64 a, .int .i64 b], .agg #[.int .i64 c, .int .i64 d]] w fun e w' => e = .returned (.tuple #[.int .i64 (11), .bool true]) ∧ Below w.heap.size w w' := by
 go_enter Tryz.func103, Tryz.ntmps103
 go_wp2_with (first | (go_at_call 81; refine (valid_any _ _ _).mono ?_; rintro e w1 ⟨rfl, hb⟩; obtain ⟨hc, hf⟩ := bcell hb; have hz := hb.size; (try simp only [World.size_alloc] at hz); have hz0 : w.heap.size < w1.heap.size := (by omega); have hz1 : w.heap.size + 1 < w1.heap.size := (by omega)) | (go_at_call 126; refine (ov_any _ _ _ _ _).mono ?_; rintro e w1 ⟨rfl, hb⟩; obtain ⟨hc, hf⟩ := bcell hb; have hz := hb.size; (try simp only [World.size_alloc] at hz); have hz0 : w.heap.size < w1.heap.size := (by omega); have hz1 : w.heap.size + 1 < w1.heap.size := (by omega)))
 go_ret2
 refine ⟨rfl, ?_⟩
 (repeat' first | (with_reducible first | exact Below.refl _ _ | assumption | refine Below.alloc ?_ ?_ _ | refine Below.drew ?_ | refine Below.setCell ?_ ?_ _ | refine Below.trans ?_ (Below.mono (by assumption) ?_)) | go_size)
theorem rel_after (a b c d : Int) (w : World) (h1 : vld a b = true) (h2 : vld c d = true) (h : ¬ b < c) (k : (b == c) = false) (k2 : (d == a) = false) (h3 : d < a) :
  Calls Tryz.prog 103 #[.agg #[.int .i64 a, .int .i64 b], .agg #[.int .i64 c, .int .i64 d]] w fun e w' => e = .returned (.tuple #[.int .i64 (12), .bool true]) ∧ Below w.heap.size w w' := by
 go_enter Tryz.func103, Tryz.ntmps103
 go_wp2_with (first | (go_at_call 81; refine (valid_any _ _ _).mono ?_; rintro e w1 ⟨rfl, hb⟩; obtain ⟨hc, hf⟩ := bcell hb; have hz := hb.size; (try simp only [World.size_alloc] at hz); have hz0 : w.heap.size < w1.heap.size := (by omega); have hz1 : w.heap.size + 1 < w1.heap.size := (by omega)) | (go_at_call 126; refine (ov_any _ _ _ _ _).mono ?_; rintro e w1 ⟨rfl, hb⟩; obtain ⟨hc, hf⟩ := bcell hb; have hz := hb.size; (try simp only [World.size_alloc] at hz); have hz0 : w.heap.size < w1.heap.size := (by omega); have hz1 : w.heap.size + 1 < w1.heap.size := (by omega)))
 go_ret2
 refine ⟨rfl, ?_⟩
 (repeat' first | (with_reducible first | exact Below.refl _ _ | assumption | refine Below.alloc ?_ ?_ _ | refine Below.drew ?_ | refine Below.setCell ?_ ?_ _ | refine Below.trans ?_ (Below.mono (by assumption) ?_)) | go_size)
theorem rel_over (a b c d : Int) (w : World) (h1 : vld a b = true) (h2 : vld c d = true) (h : ¬ b < c) (k : (b == c) = false) (k2 : (d == a) = false) (h3 : ¬ d < a) :
  Calls Tryz.prog 103 #[.agg #[.int .i64 a, .int .i64 b], .agg #[.int .i64 c, .int .i64 d]] w fun e w' => e = .returned (.tuple #[.int .i64 (ovAt (sgn a c) (sgn b d)), .bool true]) ∧ Below w.heap.size w w' := by
 go_enter Tryz.func103, Tryz.ntmps103
 go_wp2_with (first | (go_at_call 81; refine (valid_any _ _ _).mono ?_; rintro e w1 ⟨rfl, hb⟩; obtain ⟨hc, hf⟩ := bcell hb; have hz := hb.size; (try simp only [World.size_alloc] at hz); have hz0 : w.heap.size < w1.heap.size := (by omega); have hz1 : w.heap.size + 1 < w1.heap.size := (by omega)) | (go_at_call 126; refine (ov_any _ _ _ _ _).mono ?_; rintro e w1 ⟨rfl, hb⟩; obtain ⟨hc, hf⟩ := bcell hb; have hz := hb.size; (try simp only [World.size_alloc] at hz); have hz0 : w.heap.size < w1.heap.size := (by omega); have hz1 : w.heap.size + 1 < w1.heap.size := (by omega)))
 go_ret2
 refine ⟨rfl, ?_⟩
 (repeat' first | (with_reducible first | exact Below.refl _ _ | assumption | refine Below.alloc ?_ ?_ _ | refine Below.drew ?_ | refine Below.setCell ?_ ?_ _ | refine Below.trans ?_ (Below.mono (by assumption) ?_)) | go_size)
theorem rel_any (a b c d : Int) (w : World) :
  Calls Tryz.prog 103 #[.agg #[.int .i64 a, .int .i64 b], .agg #[.int .i64 c, .int .i64 d]] w fun e w' => e = .returned (.tuple #[.int .i64 (relR a b c d), .bool (bothV a b c d)]) ∧ Below w.heap.size w w' := by
 unfold relR bothV
 cases h1 : vld a b
 ·exact rel_bad1 a b c d w h1
 ·cases h2 : vld c d
  ·exact rel_bad2 a b c d w h1 h2
  ·simp only [Bool.and_self, if_true]
   unfold relV
   by_cases h : b < c
   ·rw [if_pos h]; exact rel_before a b c d w h1 h2 h
   ·rw [if_neg h]
    by_cases k : b = c
    ·rw [if_pos k]; exact rel_meets a b c d w h1 h2 h (beq_iff_eq.2 k)
    ·rw [if_neg k]
     by_cases k2 : d = a
     ·rw [if_pos k2]; exact rel_metby a b c d w h1 h2 h (beq_eq_false_iff_ne.2 k) (beq_iff_eq.2 k2)
     ·rw [if_neg k2]
      by_cases h3 : d < a
      ·rw [if_pos h3]; exact rel_after a b c d w h1 h2 h (beq_eq_false_iff_ne.2 k) (beq_eq_false_iff_ne.2 k2) h3
      ·rw [if_neg h3]; exact rel_over a b c d w h1 h2 h (beq_eq_false_iff_ne.2 k) (beq_eq_false_iff_ne.2 k2) h3
def holdsR (r a b c d : Int) : Bool := bothV a b c d && (relR a b c d == r)
end Go.Proofs.YtdhemhmgenhmaaaGreat.Aln
