import Derived.Test.YteihjneeiojgaaaQS
import Derived.Test.YteihjneeiojgaaaMW
import Derived.WalkKit
import Derived.WalkSpells
import Derived.WalkLawsBesides
import Derived.Deep.QuietTactic
import Derived.BigQuiet
import Derived.Handy
import Derived.Lib.Hide
/-
  Whether an expression has just the fields that its operator asks; whether it is well-formed. Conditions: none.
-/
namespace Go.Proofs.Yteihjneeiojgaaa
set_option maxRecDepth 100000
set_option linter.unusedVariables false
set_option linter.unusedSimpArgs false
open Go.RowKit

def idxB (i n : Int) : Bool := decide (0 ≤ i) && decide (i < n)
set_option maxHeartbeats 800000 in
theorem pIdx_any (i n : Int) (w : World) : Calls Try.prog 51 #[.int .i64 i, .int .i64 n] w fun e w' => e = .returned (.bool (idxB i n)) ∧ Below w.heap.size w w' := by
  unfold idxB
  by_cases h1 : 0 ≤ i <;> by_cases h2 : i < n
  all_goals
    go_enter Try.func51, Try.ntmps51
    go_wp2
    go_ret
    refine ⟨by simp [*], ?_⟩
    (repeat' (first | (with_reducible exact Below.refl _ _) | (with_reducible assumption) | (with_reducible refine Below.alloc ?_ ?_ _) | (with_reducible refine Below.drew ?_) | (with_reducible refine Below.setCell ?_ ?_ _) | (with_reducible refine Below.trans ?_ (Below.mono (by assumption) ?_)) | go_size))
/-- The own fields of an expression are as its operator asks. -/
def fldE (op n k m : Int) (s nm : ByteArray) : Bool :=
  if op = 1 then Va.vldV k m s && (n == 0) && (nm.toList == [])
  else if op = 24 then idxB n 13 && Va.eqV k m s 0 0 ⟨#[]⟩ && (nm.toList == [])
  else if op = 2 then Va.eqV k m s 0 0 ⟨#[]⟩ && (nm.toList == [])
  else (n == 0) && Va.eqV k m s 0 0 ⟨#[]⟩ && (nm.toList == [])
set_option maxRecDepth 100000 in
set_option maxHeartbeats 6400000 in
theorem pFld_any (op n k m : Int) (s nm : ByteArray) (A : Option Addr) (l c : Nat) (w : World) :
    Calls Try.prog 63 #[.agg #[.int .i64 op, .int .i64 n, .int .i64 k, .int .i64 m, .string s, .string nm, .slice A l c]] w fun e w' => e = .returned (.bool (fldE op n k m s nm)) ∧ Below w.heap.size w w' := by
  have hI := fun W => pIdx_any n 13 W
  have hV := fun W => Va.pValid_any k m s W
  have q1 := fun W => Va.eql_val k m s 0 0 ⟨#[]⟩ W
  have q0 : ∀ W, (binOp .eql 38 (.agg #[.int .i64 0, .int .i64 0, .string ⟨#[]⟩]) (.agg #[.int .i64 0, .int .i64 0, .string ⟨#[]⟩])).run Try.prog W = .ok (.bool true) W := fun W => by
    have h := Va.eql_val 0 0 ⟨#[]⟩ 0 0 ⟨#[]⟩ W
    rwa [show Va.eqV 0 0 ⟨#[]⟩ 0 0 ⟨#[]⟩ = true by simp [Va.eqV]] at h
  unfold fldE
  unfold Va.vV at hV
  by_cases o1 : op = 1
  · subst o1
    rw [if_pos rfl]
    clear q1 hI
    cases hv : Va.vldV k m s <;> rw [hv] at hV <;> by_cases hn : n = 0 <;> cases he : nm.toList == []
    all_goals
      go_enter Try.func63, Try.ntmps63
      go_wp2_with (go_at_call 64; refine (hV _).mono ?_; rintro e w1 ⟨rfl, hb⟩; obtain ⟨hc, hf⟩ := bcell hb; have hz := hb.size; (try simp only [World.size_alloc] at hz); have hz0 : w.heap.size < w1.heap.size := (by omega))
      go_ret
      refine ⟨by simp [*], ?_⟩
      (repeat' (first | (with_reducible exact Below.refl _ _) | (with_reducible assumption) | (with_reducible refine Below.alloc ?_ ?_ _) | (with_reducible refine Below.drew ?_) | (with_reducible refine Below.setCell ?_ ?_ _) | (with_reducible refine Below.trans ?_ (Below.mono (by assumption) ?_)) | go_size))
  rw [if_neg o1]
  have j1 : (op == 1) = false := by simpa using o1
  by_cases o2 : op = 24
  · subst o2
    rw [if_pos rfl]
    clear hV q0
    generalize Va.eqV k m s 0 0 ⟨#[]⟩ = b at *
    generalize idxB n 13 = i at *
    cases i <;> cases b <;> cases he : nm.toList == []
    all_goals
      go_enter Try.func63, Try.ntmps63
      go_wp2_with (go_at_call 51; refine (hI _).mono ?_; rintro e w1 ⟨rfl, hb⟩; obtain ⟨hc, hf⟩ := bcell hb; have hz := hb.size; (try simp only [World.size_alloc] at hz); have hz0 : w.heap.size < w1.heap.size := (by omega))
      go_ret
      refine ⟨by simp [*], ?_⟩
      (repeat' (first | (with_reducible exact Below.refl _ _) | (with_reducible assumption) | (with_reducible refine Below.alloc ?_ ?_ _) | (with_reducible refine Below.drew ?_) | (with_reducible refine Below.setCell ?_ ?_ _) | (with_reducible refine Below.trans ?_ (Below.mono (by assumption) ?_)) | go_size))
  rw [if_neg o2]
  have j2 : (op == 24) = false := by simpa using o2
  by_cases o3 : op = 2
  · subst o3
    rw [if_pos rfl]
    clear hV q0 hI
    generalize Va.eqV k m s 0 0 ⟨#[]⟩ = b at *
    cases b <;> cases he : nm.toList == []
    all_goals
      go_enter Try.func63, Try.ntmps63
      go_wp2
      go_ret
      refine ⟨by simp [*], ?_⟩
      (repeat' (first | (with_reducible exact Below.refl _ _) | (with_reducible assumption) | (with_reducible refine Below.alloc ?_ ?_ _) | (with_reducible refine Below.drew ?_) | (with_reducible refine Below.setCell ?_ ?_ _) | (with_reducible refine Below.trans ?_ (Below.mono (by assumption) ?_)) | go_size))
  rw [if_neg o3]
  have j3 : (op == 2) = false := by simpa using o3
  clear hV q0 hI
  generalize Va.eqV k m s 0 0 ⟨#[]⟩ = b at *
  cases b <;> by_cases hn : n = 0 <;> cases he : nm.toList == []
  all_goals
    go_enter Try.func63, Try.ntmps63
    go_wp2
    go_ret
    refine ⟨by simp [*], ?_⟩
    (repeat' (first | (with_reducible exact Below.refl _ _) | (with_reducible assumption) | (with_reducible refine Below.alloc ?_ ?_ _) | (with_reducible refine Below.drew ?_) | (with_reducible refine Below.setCell ?_ ?_ _) | (with_reducible refine Below.trans ?_ (Below.mono (by assumption) ?_)) | go_size))
end Go.Proofs.Yteihjneeiojgaaa
