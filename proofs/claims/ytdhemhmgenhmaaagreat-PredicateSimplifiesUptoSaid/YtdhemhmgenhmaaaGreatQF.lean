import Derived.Test.YtdhemhmgenhmaaaGreatQS
import Derived.Test.YtdhemhmgenhmaaaGreatMW
import Derived.WalkKit
import Derived.WalkSpells
import Derived.WalkLawsBesides
import Derived.Deep.QuietTactic
import Derived.BigQuiet
import Derived.Handy
import Derived.Lib.Hide
set_option maxRecDepth 100000
set_option maxHeartbeats 25600000
set_option linter.unusedVariables false
set_option linter.unusedSimpArgs false
/-
  Whether an expression has just the fields that its operator asks; whether it is well-formed. Conditions: none.
-/
namespace Go.Proofs.YtdhemhmgenhmaaaGreat
open Go.RowKit
def idxB (i n : Int) : Bool := decide (0 ≤ i) && decide (i < n)
theorem pIdx_any (i n : Int) (w : World) : Calls Tryz.prog 94 #[.int .i64 i, .int .i64 n] w fun e w' => e = .returned (.bool (idxB i n)) ∧ Below w.heap.size w w' := by
 unfold idxB
 by_cases h1 : 0 ≤ i <;> by_cases h2 : i < n
 all_goals
  go_enter Tryz.func94, Tryz.ntmps94
  go_wp2
  go_ret
  refine ⟨by simp [*], ?_⟩
  (repeat' first | (with_reducible first | exact Below.refl _ _ | assumption | refine Below.alloc ?_ ?_ _ | refine Below.drew ?_ | refine Below.setCell ?_ ?_ _ | refine Below.trans ?_ (Below.mono (by assumption) ?_)) | go_size)
def fldE (op n k m : Int) (s nm : ByteArray) : Bool :=
 if op = 1 then Va.vldV k m s && (n == 0) && (nm.toList == [])
 else if op = 24 then idxB n 13 && Va.eqV k m s 0 0 ⟨#[]⟩ && (nm.toList == [])
 else if op = 2 then Va.eqV k m s 0 0 ⟨#[]⟩ && (nm.toList == [])
 else (n == 0) && Va.eqV k m s 0 0 ⟨#[]⟩ && (nm.toList == [])
theorem pFld_any (op n k m : Int) (s nm : ByteArray) (A : Option Addr) (l c : Nat) (w : World) :
  Calls Tryz.prog 93 #[.agg #[.int .i64 op, .int .i64 n, .int .i64 k, .int .i64 m, .string s, .string nm, .slice A l c]] w fun e w' => e = .returned (.bool (fldE op n k m s nm)) ∧ Below w.heap.size w w' := by
 have hI := fun W => pIdx_any n 13 W
 have hV := fun W => Va.pValid_any k m s W
 have q1 := fun W => Va.eql_val k m s 0 0 ⟨#[]⟩ W
 have q0 : ∀ W, (binOp .eql 23 (.agg #[.int .i64 0, .int .i64 0, .string ⟨#[]⟩]) (.agg #[.int .i64 0, .int .i64 0, .string ⟨#[]⟩])).run Tryz.prog W = .ok (.bool true) W := fun W => by
  have h := Va.eql_val 0 0 ⟨#[]⟩ 0 0 ⟨#[]⟩ W
  rwa [show Va.eqV 0 0 ⟨#[]⟩ 0 0 ⟨#[]⟩ = true by simp [Va.eqV]] at h
 unfold fldE
 unfold Va.vV at hV
 by_cases o1 : op = 1
 ·subst o1
  rw [if_pos rfl]
  clear q1 hI
  cases hv : Va.vldV k m s <;> rw [hv] at hV <;> by_cases hn : n = 0 <;> cases he : nm.toList == []
  all_goals
   go_enter Tryz.func93, Tryz.ntmps93
   go_wp2_with (go_at_call 95; refine (hV _).mono ?_; rintro e w1 ⟨rfl, hb⟩; obtain ⟨hc, hf⟩ := bcell hb; have hz := hb.size; (try simp only [World.size_alloc] at hz); have hz0 : w.heap.size < w1.heap.size := (by omega))
   go_ret
   refine ⟨by simp [*], ?_⟩
   (repeat' first | (with_reducible first | exact Below.refl _ _ | assumption | refine Below.alloc ?_ ?_ _ | refine Below.drew ?_ | refine Below.setCell ?_ ?_ _ | refine Below.trans ?_ (Below.mono (by assumption) ?_)) | go_size)
 rw [if_neg o1]
 have j1 : (op == 1) = false := by simpa using o1
 by_cases o2 : op = 24
 ·subst o2
  rw [if_pos rfl]
  clear hV q0
  generalize Va.eqV k m s 0 0 ⟨#[]⟩ = b at *
  generalize idxB n 13 = i at *
  cases i <;> cases b <;> cases he : nm.toList == []
  all_goals
   go_enter Tryz.func93, Tryz.ntmps93
   go_wp2_with (go_at_call 94; refine (hI _).mono ?_; rintro e w1 ⟨rfl, hb⟩; obtain ⟨hc, hf⟩ := bcell hb; have hz := hb.size; (try simp only [World.size_alloc] at hz); have hz0 : w.heap.size < w1.heap.size := (by omega))
   go_ret
   refine ⟨by simp [*], ?_⟩
   (repeat' first | (with_reducible first | exact Below.refl _ _ | assumption | refine Below.alloc ?_ ?_ _ | refine Below.drew ?_ | refine Below.setCell ?_ ?_ _ | refine Below.trans ?_ (Below.mono (by assumption) ?_)) | go_size)
 rw [if_neg o2]
 have j2 : (op == 24) = false := by simpa using o2
 by_cases o3 : op = 2
 ·subst o3
  rw [if_pos rfl]
  clear hV q0 hI
  generalize Va.eqV k m s 0 0 ⟨#[]⟩ = b at *
  cases b <;> cases he : nm.toList == []
  all_goals
   go_enter Tryz.func93, Tryz.ntmps93
   go_wp2
   go_ret
   refine ⟨by simp [*], ?_⟩
   (repeat' first | (with_reducible first | exact Below.refl _ _ | assumption | refine Below.alloc ?_ ?_ _ | refine Below.drew ?_ | refine Below.setCell ?_ ?_ _ | refine Below.trans ?_ (Below.mono (by assumption) ?_)) | go_size)
 rw [if_neg o3]
 have j3 : (op == 2) = false := by simpa using o3
 clear hV q0 hI
 generalize Va.eqV k m s 0 0 ⟨#[]⟩ = b at *
 cases b <;> by_cases hn : n = 0 <;> cases he : nm.toList == []
 all_goals
  go_enter Tryz.func93, Tryz.ntmps93
  go_wp2
  go_ret
  refine ⟨by simp [*], ?_⟩
  (repeat' first | (with_reducible first | exact Below.refl _ _ | assumption | refine Below.alloc ?_ ?_ _ | refine Below.drew ?_ | refine Below.setCell ?_ ?_ _ | refine Below.trans ?_ (Below.mono (by assumption) ?_)) | go_size)
def wfE (op n k m : Int) (s nm : ByteArray) (l : Nat) : Bool := knw op && decide (opLo op ≤ l) && decide ((l : Int) ≤ opHi op) && fldE op n k m s nm
def chkE (op n k m : Int) (s nm : ByteArray) (l : Nat) (cols : Int) : Int := if knw op = false then 7 else if wfE op n k m s nm l = false then 8 else if op = 2 ∧ idxB n cols = false then 13 else 0
theorem pWf_any (op n k m : Int) (s nm : ByteArray) (A : Option Addr) (l c : Nat) (w : World) :
  Calls Tryz.prog 48 #[.agg #[.int .i64 op, .int .i64 n, .int .i64 k, .int .i64 m, .string s, .string nm, .slice A l c]] w fun e w' => e = .returned (.bool (wfE op n k m s nm l)) ∧ Below w.heap.size w w' := by
 have hS := fun W => pShape_any op W
 have hF := fun W => pFld_any op n k m s nm A l c W
 unfold wfE
 generalize fldE op n k m s nm = F at *
 generalize knw op = K at *
 generalize opLo op = a at *
 generalize opHi op = b at *
 generalize opAr op = d at *
 generalize opRs op = r at *
 cases K
 ·go_enter Tryz.func48, Tryz.ntmps48
  go_wp2_with (first | (go_at_call 92; refine (hS _).mono ?_; rintro e w1 ⟨rfl, hb⟩; obtain ⟨hc, hf⟩ := bcell hb; have hz := hb.size; (try simp only [World.size_alloc] at hz); have hz0 : w.heap.size < w1.heap.size := (by omega)) | (go_at_call 93; refine (hF _).mono ?_; rintro e w1 ⟨rfl, hb⟩; obtain ⟨hc, hf⟩ := bcell hb; have hz := hb.size; (try simp only [World.size_alloc] at hz); have hz0 : w.heap.size < w1.heap.size := (by omega); have hz1 : w.heap.size + 1 < w1.heap.size := (by omega)))
  go_ret
  refine ⟨by simp, ?_⟩
  (repeat' first | (with_reducible first | exact Below.refl _ _ | assumption | refine Below.alloc ?_ ?_ _ | refine Below.drew ?_ | refine Below.setCell ?_ ?_ _ | refine Below.trans ?_ (Below.mono (by assumption) ?_)) | go_size)
 ·by_cases h1 : a ≤ l
  ·by_cases h2 : (l : Int) ≤ b
   ·go_enter Tryz.func48, Tryz.ntmps48
    go_wp2_with (first | (go_at_call 92; refine (hS _).mono ?_; rintro e w1 ⟨rfl, hb⟩; obtain ⟨hc, hf⟩ := bcell hb; have hz := hb.size; (try simp only [World.size_alloc] at hz); have hz0 : w.heap.size < w1.heap.size := (by omega)) | (go_at_call 93; refine (hF _).mono ?_; rintro e w1 ⟨rfl, hb⟩; obtain ⟨hc, hf⟩ := bcell hb; have hz := hb.size; (try simp only [World.size_alloc] at hz); have hz0 : w.heap.size < w1.heap.size := (by omega)))
    go_ret
    refine ⟨by simp [*], ?_⟩
    (repeat' first | (with_reducible first | exact Below.refl _ _ | assumption | refine Below.alloc ?_ ?_ _ | refine Below.drew ?_ | refine Below.setCell ?_ ?_ _ | refine Below.trans ?_ (Below.mono (by assumption) ?_)) | go_size)
   ·go_enter Tryz.func48, Tryz.ntmps48
    go_wp2_with (first | (go_at_call 92; refine (hS _).mono ?_; rintro e w1 ⟨rfl, hb⟩; obtain ⟨hc, hf⟩ := bcell hb; have hz := hb.size; (try simp only [World.size_alloc] at hz); have hz0 : w.heap.size < w1.heap.size := (by omega)) | (go_at_call 93; refine (hF _).mono ?_; rintro e w1 ⟨rfl, hb⟩; obtain ⟨hc, hf⟩ := bcell hb; have hz := hb.size; (try simp only [World.size_alloc] at hz); have hz0 : w.heap.size < w1.heap.size := (by omega)))
    go_ret
    refine ⟨by simp [*]; intro hh; exfalso; omega, ?_⟩
    (repeat' first | (with_reducible first | exact Below.refl _ _ | assumption | refine Below.alloc ?_ ?_ _ | refine Below.drew ?_ | refine Below.setCell ?_ ?_ _ | refine Below.trans ?_ (Below.mono (by assumption) ?_)) | go_size)
  ·go_enter Tryz.func48, Tryz.ntmps48
   go_wp2_with (first | (go_at_call 92; refine (hS _).mono ?_; rintro e w1 ⟨rfl, hb⟩; obtain ⟨hc, hf⟩ := bcell hb; have hz := hb.size; (try simp only [World.size_alloc] at hz); have hz0 : w.heap.size < w1.heap.size := (by omega)) | (go_at_call 93; refine (hF _).mono ?_; rintro e w1 ⟨rfl, hb⟩; obtain ⟨hc, hf⟩ := bcell hb; have hz := hb.size; (try simp only [World.size_alloc] at hz); have hz0 : w.heap.size < w1.heap.size := (by omega)))
   go_ret
   refine ⟨by simp [*]; intro hh; exfalso; omega, ?_⟩
   (repeat' first | (with_reducible first | exact Below.refl _ _ | assumption | refine Below.alloc ?_ ?_ _ | refine Below.drew ?_ | refine Below.setCell ?_ ?_ _ | refine Below.trans ?_ (Below.mono (by assumption) ?_)) | go_size)
theorem pItself_any (op n k m : Int) (s nm : ByteArray) (A : Option Addr) (l c : Nat) (cols : Int) (w : World) :
  Calls Tryz.prog 120 #[.agg #[.int .i64 op, .int .i64 n, .int .i64 k, .int .i64 m, .string s, .string nm, .slice A l c], .int .i64 cols] w fun e w' => e = .returned (.int .i64 (chkE op n k m s nm l cols)) ∧ Below w.heap.size w w' := by
 have hS := fun W => pShape_any op W
 have hF := fun W => pWf_any op n k m s nm A l c W
 have hI := fun W => pIdx_any n cols W
 unfold chkE
 generalize wfE op n k m s nm l = F at *
 generalize idxB n cols = I at *
 generalize opLo op = a at *
 generalize opHi op = b at *
 generalize opAr op = d at *
 generalize opRs op = r at *
 cases hK : knw op <;> rw [hK] at hS
 ·go_enter Tryz.func120, Tryz.ntmps120
  go_wp2_with (first | (go_at_call 92; refine (hS _).mono ?_; rintro e w1 ⟨rfl, hb⟩; obtain ⟨hc, hf⟩ := bcell hb; have hz := hb.size; (try simp only [World.size_alloc] at hz); have hz0 : w.heap.size < w1.heap.size := (by omega)) | (go_at_call 48; refine (hF _).mono ?_; rintro e w1 ⟨rfl, hb⟩; obtain ⟨hc, hf⟩ := bcell hb; have hz := hb.size; (try simp only [World.size_alloc] at hz); have hz0 : w.heap.size < w1.heap.size := (by omega)))
  go_ret
  refine ⟨by simp, ?_⟩
  (repeat' first | (with_reducible first | exact Below.refl _ _ | assumption | refine Below.alloc ?_ ?_ _ | refine Below.drew ?_ | refine Below.setCell ?_ ?_ _ | refine Below.trans ?_ (Below.mono (by assumption) ?_)) | go_size)
 ·cases F
  ·go_enter Tryz.func120, Tryz.ntmps120
   go_wp2_with (first | (go_at_call 92; refine (hS _).mono ?_; rintro e w1 ⟨rfl, hb⟩; obtain ⟨hc, hf⟩ := bcell hb; have hz := hb.size; (try simp only [World.size_alloc] at hz); have hz0 : w.heap.size < w1.heap.size := (by omega)) | (go_at_call 48; refine (hF _).mono ?_; rintro e w1 ⟨rfl, hb⟩; obtain ⟨hc, hf⟩ := bcell hb; have hz := hb.size; (try simp only [World.size_alloc] at hz); have hz0 : w.heap.size < w1.heap.size := (by omega)))
   go_ret
   refine ⟨by simp, ?_⟩
   (repeat' first | (with_reducible first | exact Below.refl _ _ | assumption | refine Below.alloc ?_ ?_ _ | refine Below.drew ?_ | refine Below.setCell ?_ ?_ _ | refine Below.trans ?_ (Below.mono (by assumption) ?_)) | go_size)
  ·by_cases h2 : op = 2
   ·subst h2
    cases I
    all_goals
     go_enter Tryz.func120, Tryz.ntmps120
     go_wp2_with (first | (go_at_call 92; refine (hS _).mono ?_; rintro e w1 ⟨rfl, hb⟩; obtain ⟨hc, hf⟩ := bcell hb; have hz := hb.size; (try simp only [World.size_alloc] at hz); have hz0 : w.heap.size < w1.heap.size := (by omega)) | (go_at_call 48; refine (hF _).mono ?_; rintro e w1 ⟨rfl, hb⟩; obtain ⟨hc, hf⟩ := bcell hb; have hz := hb.size; (try simp only [World.size_alloc] at hz); have hz0 : w.heap.size < w1.heap.size := (by omega)) | (go_at_call 94; refine (hI _).mono ?_; rintro e w1 ⟨rfl, hb⟩; obtain ⟨hc, hf⟩ := bcell hb; have hz := hb.size; (try simp only [World.size_alloc] at hz); have hz0 : w.heap.size < w1.heap.size := (by omega)))
     go_ret
     refine ⟨by simp, ?_⟩
     (repeat' first | (with_reducible first | exact Below.refl _ _ | assumption | refine Below.alloc ?_ ?_ _ | refine Below.drew ?_ | refine Below.setCell ?_ ?_ _ | refine Below.trans ?_ (Below.mono (by assumption) ?_)) | go_size)
   ·go_enter Tryz.func120, Tryz.ntmps120
    go_wp2_with (first | (go_at_call 92; refine (hS _).mono ?_; rintro e w1 ⟨rfl, hb⟩; obtain ⟨hc, hf⟩ := bcell hb; have hz := hb.size; (try simp only [World.size_alloc] at hz); have hz0 : w.heap.size < w1.heap.size := (by omega)) | (go_at_call 48; refine (hF _).mono ?_; rintro e w1 ⟨rfl, hb⟩; obtain ⟨hc, hf⟩ := bcell hb; have hz := hb.size; (try simp only [World.size_alloc] at hz); have hz0 : w.heap.size < w1.heap.size := (by omega)))
    go_ret
    refine ⟨by simp [h2], ?_⟩
    (repeat' first | (with_reducible first | exact Below.refl _ _ | assumption | refine Below.alloc ?_ ?_ _ | refine Below.drew ?_ | refine Below.setCell ?_ ?_ _ | refine Below.trans ?_ (Below.mono (by assumption) ?_)) | go_size)
end Go.Proofs.YtdhemhmgenhmaaaGreat
