import Derived.Test.YteihjneeiojgaaaMV
import Derived.WalkKit
import Derived.WalkSpells
import Derived.WalkLawsBesides
import Derived.Deep.QuietTactic
import Derived.BigQuiet
import Derived.Handy
import Derived.Lib.Hide
/-
  Values: validity, constructors, comparisons, truth: what each function answers, in every world. Conditions: none.
-/
namespace Go.Proofs.Yteihjneeiojgaaa.Va
set_option maxRecDepth 100000
set_option linter.unusedVariables false
set_option linter.unusedSimpArgs false
open Go.RowKit

def emp (s : ByteArray) : Bool := s.toList == []
/-- Whether v is a value. -/
def vldV (k n : Int) (s : ByteArray) : Bool :=
  if k = 0 then decide (n = 0) && emp s
  else if k = 1 then decide (-1125899906842624 ≤ n) && decide (n ≤ 1125899906842624) && emp s
  else if k = 2 then decide (n = 0) && decide (s.size ≤ 200) && prnL s.data.toList
  else if k = 3 then (decide (n = 0) || decide (n = 1)) && emp s
  else false
set_option maxRecDepth 100000 in
set_option maxHeartbeats 1600000 in
theorem pValid_any (k n : Int) (s : ByteArray) (w : World) : Calls Try.prog 64 #[vV k n s] w fun e w' => e = .returned (.bool (vldV k n s)) ∧ Below w.heap.size w w' := by
  have hP := fun W => pPrn_any s W
  unfold vldV emp vV
  by_cases k0 : k = 0
  · subst k0
    rw [if_pos rfl]
    by_cases hn : n = 0 <;> cases he : s.toList == []
    all_goals
      go_enter Try.func64, Try.ntmps64
      go_wp2
      go_ret
      refine ⟨by simp [*], ?_⟩
      (repeat' (first | (with_reducible exact Below.refl _ _) | (with_reducible assumption) | (with_reducible refine Below.alloc ?_ ?_ _) | (with_reducible refine Below.drew ?_) | (with_reducible refine Below.setCell ?_ ?_ _) | (with_reducible refine Below.trans ?_ (Below.mono (by assumption) ?_)) | go_size))
  rw [if_neg k0]
  by_cases k1 : k = 1
  · subst k1
    rw [if_pos rfl]
    by_cases h1 : -1125899906842624 ≤ n <;> by_cases h2 : n ≤ 1125899906842624 <;> cases he : s.toList == []
    all_goals (first | (exfalso; omega) | skip)
    all_goals
      go_enter Try.func64, Try.ntmps64
      go_wp2
      go_ret
      refine ⟨by simp [*], ?_⟩
      (repeat' (first | (with_reducible exact Below.refl _ _) | (with_reducible assumption) | (with_reducible refine Below.alloc ?_ ?_ _) | (with_reducible refine Below.drew ?_) | (with_reducible refine Below.setCell ?_ ?_ _) | (with_reducible refine Below.trans ?_ (Below.mono (by assumption) ?_)) | go_size))
  rw [if_neg k1]
  by_cases k2 : k = 2
  · subst k2
    rw [if_pos rfl]
    by_cases hn : n = 0
    · by_cases hs : s.size ≤ 200
      · have hsi : (s.size : Int) ≤ 200 := by omega
        cases hp : prnL s.data.toList <;> rw [hp] at hP
        all_goals
          go_enter Try.func64, Try.ntmps64
          go_wp2_with (go_at_call 73; refine (hP _).mono ?_; rintro e w1 ⟨rfl, hb⟩)
          go_ret
          refine ⟨by simp [*], ?_⟩
          (repeat' (first | (with_reducible exact Below.refl _ _) | (with_reducible assumption) | (with_reducible refine Below.alloc ?_ ?_ _) | (with_reducible refine Below.drew ?_) | (with_reducible refine Below.setCell ?_ ?_ _) | (with_reducible refine Below.trans ?_ (Below.mono (by assumption) ?_)) | go_size))
      · have hsi : ¬ (s.size : Int) ≤ 200 := by omega
        go_enter Try.func64, Try.ntmps64
        go_wp2
        go_ret
        refine ⟨by simp [*], ?_⟩
        (repeat' (first | (with_reducible exact Below.refl _ _) | (with_reducible assumption) | (with_reducible refine Below.alloc ?_ ?_ _) | (with_reducible refine Below.drew ?_) | (with_reducible refine Below.setCell ?_ ?_ _) | (with_reducible refine Below.trans ?_ (Below.mono (by assumption) ?_)) | go_size))
    · go_enter Try.func64, Try.ntmps64
      go_wp2
      go_ret
      refine ⟨by simp [*], ?_⟩
      (repeat' (first | (with_reducible exact Below.refl _ _) | (with_reducible assumption) | (with_reducible refine Below.alloc ?_ ?_ _) | (with_reducible refine Below.drew ?_) | (with_reducible refine Below.setCell ?_ ?_ _) | (with_reducible refine Below.trans ?_ (Below.mono (by assumption) ?_)) | go_size))
  rw [if_neg k2]
  by_cases k3 : k = 3
  · subst k3
    rw [if_pos rfl]
    by_cases h1 : n = 0 <;> by_cases h2 : n = 1 <;> cases he : s.toList == []
    all_goals (first | (exfalso; omega) | skip)
    all_goals
      go_enter Try.func64, Try.ntmps64
      go_wp2
      go_ret
      refine ⟨by simp [*], ?_⟩
      (repeat' (first | (with_reducible exact Below.refl _ _) | (with_reducible assumption) | (with_reducible refine Below.alloc ?_ ?_ _) | (with_reducible refine Below.drew ?_) | (with_reducible refine Below.setCell ?_ ?_ _) | (with_reducible refine Below.trans ?_ (Below.mono (by assumption) ?_)) | go_size))
  rw [if_neg k3]
  have j0 : (k == 0) = false := by simpa using k0
  have j1 : (k == 1) = false := by simpa using k1
  have j2 : (k == 2) = false := by simpa using k2
  have j3 : (k == 3) = false := by simpa using k3
  go_enter Try.func64, Try.ntmps64
  go_wp2
  go_ret
  refine ⟨rfl, ?_⟩
  (repeat' (first | (with_reducible exact Below.refl _ _) | (with_reducible assumption) | (with_reducible refine Below.alloc ?_ ?_ _) | (with_reducible refine Below.drew ?_) | (with_reducible refine Below.setCell ?_ ?_ _) | (with_reducible refine Below.trans ?_ (Below.mono (by assumption) ?_)) | go_size))
set_option maxRecDepth 100000 in
set_option maxHeartbeats 1600000 in
theorem rValid_any (k n : Int) (s : ByteArray) (w : World) : Calls Try.prog 42 #[vV k n s] w fun e w' => e = .returned (.bool (vldV k n s)) ∧ Below w.heap.size w w' := by
  unfold vldV emp vV
  by_cases k0 : k = 0
  · subst k0
    rw [if_pos rfl]
    by_cases hn : n = 0 <;> cases he : s.toList == []
    all_goals
      go_enter Try.func42, Try.ntmps42
      go_wp2
      go_ret
      refine ⟨by simp [*], ?_⟩
      (repeat' (first | (with_reducible exact Below.refl _ _) | (with_reducible assumption) | (with_reducible refine Below.alloc ?_ ?_ _) | (with_reducible refine Below.drew ?_) | (with_reducible refine Below.setCell ?_ ?_ _) | (with_reducible refine Below.trans ?_ (Below.mono (by assumption) ?_)) | go_size))
  rw [if_neg k0]
  by_cases k1 : k = 1
  · subst k1
    rw [if_pos rfl]
    by_cases h1 : -1125899906842624 ≤ n <;> by_cases h2 : n ≤ 1125899906842624 <;> cases he : s.toList == []
    all_goals (first | (exfalso; omega) | skip)
    all_goals
      go_enter Try.func42, Try.ntmps42
      go_wp2
      go_ret
      refine ⟨by simp [*], ?_⟩
      (repeat' (first | (with_reducible exact Below.refl _ _) | (with_reducible assumption) | (with_reducible refine Below.alloc ?_ ?_ _) | (with_reducible refine Below.drew ?_) | (with_reducible refine Below.setCell ?_ ?_ _) | (with_reducible refine Below.trans ?_ (Below.mono (by assumption) ?_)) | go_size))
  rw [if_neg k1]
  by_cases k2 : k = 2
  · subst k2
    rw [if_pos rfl]
    by_cases hn : n = 0
    · by_cases hs : s.size ≤ 200
      · have hsi : (s.size : Int) ≤ 200 := by omega
        have hP := fun W => rPrn_any s W (by omega)
        cases hp : prnL s.data.toList <;> rw [hp] at hP
        all_goals
          go_enter Try.func42, Try.ntmps42
          go_wp2_with (go_at_call 58; refine (hP _).mono ?_; rintro e w1 ⟨rfl, rfl⟩)
          go_ret
          refine ⟨by simp [*], ?_⟩
          (repeat' (first | (with_reducible exact Below.refl _ _) | (with_reducible assumption) | (with_reducible refine Below.alloc ?_ ?_ _) | (with_reducible refine Below.drew ?_) | (with_reducible refine Below.setCell ?_ ?_ _) | (with_reducible refine Below.trans ?_ (Below.mono (by assumption) ?_)) | go_size))
      · have hsi : ¬ (s.size : Int) ≤ 200 := by omega
        go_enter Try.func42, Try.ntmps42
        go_wp2
        go_ret
        refine ⟨by simp [*], ?_⟩
        (repeat' (first | (with_reducible exact Below.refl _ _) | (with_reducible assumption) | (with_reducible refine Below.alloc ?_ ?_ _) | (with_reducible refine Below.drew ?_) | (with_reducible refine Below.setCell ?_ ?_ _) | (with_reducible refine Below.trans ?_ (Below.mono (by assumption) ?_)) | go_size))
    · go_enter Try.func42, Try.ntmps42
      go_wp2
      go_ret
      refine ⟨by simp [*], ?_⟩
      (repeat' (first | (with_reducible exact Below.refl _ _) | (with_reducible assumption) | (with_reducible refine Below.alloc ?_ ?_ _) | (with_reducible refine Below.drew ?_) | (with_reducible refine Below.setCell ?_ ?_ _) | (with_reducible refine Below.trans ?_ (Below.mono (by assumption) ?_)) | go_size))
  rw [if_neg k2]
  by_cases k3 : k = 3
  · subst k3
    rw [if_pos rfl]
    by_cases h1 : n = 0 <;> by_cases h2 : n = 1 <;> cases he : s.toList == []
    all_goals (first | (exfalso; omega) | skip)
    all_goals
      go_enter Try.func42, Try.ntmps42
      go_wp2
      go_ret
      refine ⟨by simp [*], ?_⟩
      (repeat' (first | (with_reducible exact Below.refl _ _) | (with_reducible assumption) | (with_reducible refine Below.alloc ?_ ?_ _) | (with_reducible refine Below.drew ?_) | (with_reducible refine Below.setCell ?_ ?_ _) | (with_reducible refine Below.trans ?_ (Below.mono (by assumption) ?_)) | go_size))
  rw [if_neg k3]
  have j0 : (k == 0) = false := by simpa using k0
  have j1 : (k == 1) = false := by simpa using k1
  have j2 : (k == 2) = false := by simpa using k2
  have j3 : (k == 3) = false := by simpa using k3
  go_enter Try.func42, Try.ntmps42
  go_wp2
  go_ret
  refine ⟨rfl, ?_⟩
  (repeat' (first | (with_reducible exact Below.refl _ _) | (with_reducible assumption) | (with_reducible refine Below.alloc ?_ ?_ _) | (with_reducible refine Below.drew ?_) | (with_reducible refine Below.setCell ?_ ?_ _) | (with_reducible refine Below.trans ?_ (Below.mono (by assumption) ?_)) | go_size))
end Go.Proofs.Yteihjneeiojgaaa.Va
