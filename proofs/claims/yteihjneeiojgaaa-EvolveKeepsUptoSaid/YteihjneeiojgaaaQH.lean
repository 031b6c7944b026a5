import Derived.Test.YteihjneeiojgaaaQF
import Derived.WalkKit
import Derived.WalkSpells
import Derived.WalkLawsBesides
import Derived.Deep.QuietTactic
import Derived.BigQuiet
import Derived.Handy
import Derived.Lib.Hide
/-
  Whether an expression is well-formed, and its own error. Conditions: none.
-/
namespace Go.Proofs.Yteihjneeiojgaaa
set_option maxRecDepth 100000
set_option linter.unusedVariables false
set_option linter.unusedSimpArgs false
open Go.RowKit

/-- Whether an expression with l arguments is well-formed in itself. -/
def wfE (op n k m : Int) (s nm : ByteArray) (l : Nat) : Bool := knw op && decide (opLo op ≤ l) && decide ((l : Int) ≤ opHi op) && fldE op n k m s nm
/-- The error of an expression itself. -/
def chkE (op n k m : Int) (s nm : ByteArray) (l : Nat) (cols : Int) : Int := if knw op = false then 7 else if wfE op n k m s nm l = false then 8 else if op = 2 ∧ idxB n cols = false then 13 else 0
set_option maxRecDepth 100000 in
set_option maxHeartbeats 6400000 in
theorem pWf_any (op n k m : Int) (s nm : ByteArray) (A : Option Addr) (l c : Nat) (w : World) :
    Calls Try.prog 50 #[.agg #[.int .i64 op, .int .i64 n, .int .i64 k, .int .i64 m, .string s, .string nm, .slice A l c]] w fun e w' => e = .returned (.bool (wfE op n k m s nm l)) ∧ Below w.heap.size w w' := by
  have hS := fun W => pShape_any op W
  have hF := fun W => pFld_any op n k m s nm A l c W
  unfold wfE
  generalize fldE op n k m s nm = F at *
  generalize knw op = K at *
  generalize opLo op = a at *
  generalize opHi op = b at *
  generalize opAr op = d at *
  generalize opRs op = r at *
  cases K
  · go_enter Try.func50, Try.ntmps50
    go_wp2_with (first | (go_at_call 62; refine (hS _).mono ?_; rintro e w1 ⟨rfl, hb⟩; obtain ⟨hc, hf⟩ := bcell hb; have hz := hb.size; (try simp only [World.size_alloc] at hz); have hz0 : w.heap.size < w1.heap.size := (by omega)) | (go_at_call 63; refine (hF _).mono ?_; rintro e w1 ⟨rfl, hb⟩; obtain ⟨hc, hf⟩ := bcell hb; have hz := hb.size; (try simp only [World.size_alloc] at hz); have hz0 : w.heap.size < w1.heap.size := (by omega); have hz1 : w.heap.size + 1 < w1.heap.size := (by omega)))
    go_ret
    refine ⟨by simp, ?_⟩
    (repeat' (first | (with_reducible exact Below.refl _ _) | (with_reducible assumption) | (with_reducible refine Below.alloc ?_ ?_ _) | (with_reducible refine Below.drew ?_) | (with_reducible refine Below.setCell ?_ ?_ _) | (with_reducible refine Below.trans ?_ (Below.mono (by assumption) ?_)) | go_size))
  · by_cases h1 : a ≤ l
    · by_cases h2 : (l : Int) ≤ b
      · go_enter Try.func50, Try.ntmps50
        go_wp2_with (first | (go_at_call 62; refine (hS _).mono ?_; rintro e w1 ⟨rfl, hb⟩; obtain ⟨hc, hf⟩ := bcell hb; have hz := hb.size; (try simp only [World.size_alloc] at hz); have hz0 : w.heap.size < w1.heap.size := (by omega)) | (go_at_call 63; refine (hF _).mono ?_; rintro e w1 ⟨rfl, hb⟩; obtain ⟨hc, hf⟩ := bcell hb; have hz := hb.size; (try simp only [World.size_alloc] at hz); have hz0 : w.heap.size < w1.heap.size := (by omega)))
        go_ret
        refine ⟨by simp [*], ?_⟩
        (repeat' (first | (with_reducible exact Below.refl _ _) | (with_reducible assumption) | (with_reducible refine Below.alloc ?_ ?_ _) | (with_reducible refine Below.drew ?_) | (with_reducible refine Below.setCell ?_ ?_ _) | (with_reducible refine Below.trans ?_ (Below.mono (by assumption) ?_)) | go_size))
      · go_enter Try.func50, Try.ntmps50
        go_wp2_with (first | (go_at_call 62; refine (hS _).mono ?_; rintro e w1 ⟨rfl, hb⟩; obtain ⟨hc, hf⟩ := bcell hb; have hz := hb.size; (try simp only [World.size_alloc] at hz); have hz0 : w.heap.size < w1.heap.size := (by omega)) | (go_at_call 63; refine (hF _).mono ?_; rintro e w1 ⟨rfl, hb⟩; obtain ⟨hc, hf⟩ := bcell hb; have hz := hb.size; (try simp only [World.size_alloc] at hz); have hz0 : w.heap.size < w1.heap.size := (by omega)))
        go_ret
        refine ⟨by simp [*]; intro hh; exfalso; omega, ?_⟩
        (repeat' (first | (with_reducible exact Below.refl _ _) | (with_reducible assumption) | (with_reducible refine Below.alloc ?_ ?_ _) | (with_reducible refine Below.drew ?_) | (with_reducible refine Below.setCell ?_ ?_ _) | (with_reducible refine Below.trans ?_ (Below.mono (by assumption) ?_)) | go_size))
    · go_enter Try.func50, Try.ntmps50
      go_wp2_with (first | (go_at_call 62; refine (hS _).mono ?_; rintro e w1 ⟨rfl, hb⟩; obtain ⟨hc, hf⟩ := bcell hb; have hz := hb.size; (try simp only [World.size_alloc] at hz); have hz0 : w.heap.size < w1.heap.size := (by omega)) | (go_at_call 63; refine (hF _).mono ?_; rintro e w1 ⟨rfl, hb⟩; obtain ⟨hc, hf⟩ := bcell hb; have hz := hb.size; (try simp only [World.size_alloc] at hz); have hz0 : w.heap.size < w1.heap.size := (by omega)))
      go_ret
      refine ⟨by simp [*]; intro hh; exfalso; omega, ?_⟩
      (repeat' (first | (with_reducible exact Below.refl _ _) | (with_reducible assumption) | (with_reducible refine Below.alloc ?_ ?_ _) | (with_reducible refine Below.drew ?_) | (with_reducible refine Below.setCell ?_ ?_ _) | (with_reducible refine Below.trans ?_ (Below.mono (by assumption) ?_)) | go_size))
set_option maxRecDepth 100000 in
set_option maxHeartbeats 6400000 in
theorem pItself_any (op n k m : Int) (s nm : ByteArray) (A : Option Addr) (l c : Nat) (cols : Int) (w : World) :
    Calls Try.prog 71 #[.agg #[.int .i64 op, .int .i64 n, .int .i64 k, .int .i64 m, .string s, .string nm, .slice A l c], .int .i64 cols] w fun e w' => e = .returned (.int .i64 (chkE op n k m s nm l cols)) ∧ Below w.heap.size w w' := by
  have hS := fun W => pShape_any op W
  have hF := fun W => pWf_any op n k m s nm A l c W
  have hI := fun W => pIdx_any n cols W
  unfold chkE
  generalize wfE op n k m s nm l = F at *
  generalize idxB n cols = I at *
  generalize opLo op = a at *
  generalize opHi op = b at *
  generalize opAr op = d at *
  generalize opRs op = r at *
  cases hK : knw op <;> rw [hK] at hS
  · go_enter Try.func71, Try.ntmps71
    go_wp2_with (first | (go_at_call 62; refine (hS _).mono ?_; rintro e w1 ⟨rfl, hb⟩; obtain ⟨hc, hf⟩ := bcell hb; have hz := hb.size; (try simp only [World.size_alloc] at hz); have hz0 : w.heap.size < w1.heap.size := (by omega)) | (go_at_call 50; refine (hF _).mono ?_; rintro e w1 ⟨rfl, hb⟩; obtain ⟨hc, hf⟩ := bcell hb; have hz := hb.size; (try simp only [World.size_alloc] at hz); have hz0 : w.heap.size < w1.heap.size := (by omega)))
    go_ret
    refine ⟨by simp, ?_⟩
    (repeat' (first | (with_reducible exact Below.refl _ _) | (with_reducible assumption) | (with_reducible refine Below.alloc ?_ ?_ _) | (with_reducible refine Below.drew ?_) | (with_reducible refine Below.setCell ?_ ?_ _) | (with_reducible refine Below.trans ?_ (Below.mono (by assumption) ?_)) | go_size))
  · cases F
    · go_enter Try.func71, Try.ntmps71
      go_wp2_with (first | (go_at_call 62; refine (hS _).mono ?_; rintro e w1 ⟨rfl, hb⟩; obtain ⟨hc, hf⟩ := bcell hb; have hz := hb.size; (try simp only [World.size_alloc] at hz); have hz0 : w.heap.size < w1.heap.size := (by omega)) | (go_at_call 50; refine (hF _).mono ?_; rintro e w1 ⟨rfl, hb⟩; obtain ⟨hc, hf⟩ := bcell hb; have hz := hb.size; (try simp only [World.size_alloc] at hz); have hz0 : w.heap.size < w1.heap.size := (by omega)))
      go_ret
      refine ⟨by simp, ?_⟩
      (repeat' (first | (with_reducible exact Below.refl _ _) | (with_reducible assumption) | (with_reducible refine Below.alloc ?_ ?_ _) | (with_reducible refine Below.drew ?_) | (with_reducible refine Below.setCell ?_ ?_ _) | (with_reducible refine Below.trans ?_ (Below.mono (by assumption) ?_)) | go_size))
    · by_cases h2 : op = 2
      · subst h2
        cases I
        all_goals
          go_enter Try.func71, Try.ntmps71
          go_wp2_with (first | (go_at_call 62; refine (hS _).mono ?_; rintro e w1 ⟨rfl, hb⟩; obtain ⟨hc, hf⟩ := bcell hb; have hz := hb.size; (try simp only [World.size_alloc] at hz); have hz0 : w.heap.size < w1.heap.size := (by omega)) | (go_at_call 50; refine (hF _).mono ?_; rintro e w1 ⟨rfl, hb⟩; obtain ⟨hc, hf⟩ := bcell hb; have hz := hb.size; (try simp only [World.size_alloc] at hz); have hz0 : w.heap.size < w1.heap.size := (by omega)) | (go_at_call 51; refine (hI _).mono ?_; rintro e w1 ⟨rfl, hb⟩; obtain ⟨hc, hf⟩ := bcell hb; have hz := hb.size; (try simp only [World.size_alloc] at hz); have hz0 : w.heap.size < w1.heap.size := (by omega)))
          go_ret
          refine ⟨by simp, ?_⟩
          (repeat' (first | (with_reducible exact Below.refl _ _) | (with_reducible assumption) | (with_reducible refine Below.alloc ?_ ?_ _) | (with_reducible refine Below.drew ?_) | (with_reducible refine Below.setCell ?_ ?_ _) | (with_reducible refine Below.trans ?_ (Below.mono (by assumption) ?_)) | go_size))
      · go_enter Try.func71, Try.ntmps71
        go_wp2_with (first | (go_at_call 62; refine (hS _).mono ?_; rintro e w1 ⟨rfl, hb⟩; obtain ⟨hc, hf⟩ := bcell hb; have hz := hb.size; (try simp only [World.size_alloc] at hz); have hz0 : w.heap.size < w1.heap.size := (by omega)) | (go_at_call 50; refine (hF _).mono ?_; rintro e w1 ⟨rfl, hb⟩; obtain ⟨hc, hf⟩ := bcell hb; have hz := hb.size; (try simp only [World.size_alloc] at hz); have hz0 : w.heap.size < w1.heap.size := (by omega)))
        go_ret
        refine ⟨by simp [h2], ?_⟩
        (repeat' (first | (with_reducible exact Below.refl _ _) | (with_reducible assumption) | (with_reducible refine Below.alloc ?_ ?_ _) | (with_reducible refine Below.drew ?_) | (with_reducible refine Below.setCell ?_ ?_ _) | (with_reducible refine Below.trans ?_ (Below.mono (by assumption) ?_)) | go_size))
end Go.Proofs.Yteihjneeiojgaaa
