import Derived.Test.YteihjneeiojgaaaQJ
import Derived.Test.YteihjneeiojgaaaMW
import Derived.Test.YteihjneeiojgaaaMT
import Derived.WalkKit
import Derived.WalkSpells
import Derived.WalkLawsBesides
import Derived.Deep.QuietTactic
import Derived.BigQuiet
import Derived.Handy
import Derived.Lib.Hide
import Derived.Test.YteihjneeiojgaaaQM
/-
  The reference's own test of an expression's fields; its depth. Conditions: at most 2 to the 40th arguments, a bounded depth.
-/
namespace Go.Proofs.Yteihjneeiojgaaa
set_option maxRecDepth 100000
set_option linter.unusedVariables false
set_option linter.unusedSimpArgs false
open Go.RowKit

theorem ar_lo {op : Int} (h : knw op = true) : arLo op = opLo op := by unfold arLo; rw [if_pos h]
theorem ar_hi {op : Int} (h : knw op = true) {l : Nat} (hl : l ≤ 1099511627776) : ((l : Int) ≤ arHi op ↔ (l : Int) ≤ opHi op) := by
  unfold arHi
  by_cases h1 : op = 5 ∨ op = 6 ∨ op = 23
  · rw [if_pos h1]
    have h2 : opHi op = 9223372036854775807 := by rcases h1 with rfl | rfl | rfl <;> rfl
    omega
  · rw [if_neg h1, if_pos h]
theorem wf_no {op n k m : Int} {s nm : ByteArray} {l : Nat} (h : knw op = false ∨ ¬ opLo op ≤ l ∨ ¬ (l : Int) ≤ opHi op ∨ (nm.toList == []) = false) : wfE op n k m s nm l = false := by
  unfold wfE
  rcases h with h | h | h | h
  · rw [h]; rfl
  · rw [decide_eq_false h]; simp
  · rw [decide_eq_false h]; simp
  · have : fldE op n k m s nm = false := by unfold fldE; rw [h]; simp
    rw [this]; simp
theorem wf_yes {op n k m : Int} {s nm : ByteArray} {l : Nat} (h1 : knw op = true) (h2 : opLo op ≤ l) (h3 : (l : Int) ≤ opHi op) : wfE op n k m s nm l = fldE op n k m s nm := by
  unfold wfE
  rw [h1, decide_eq_true h2, decide_eq_true h3]; simp
end Go.Proofs.Yteihjneeiojgaaa
/-
  The reference's depth of an expression; kinds of results. Conditions: lengths, a bounded depth.
-/
namespace Go.Proofs.Yteihjneeiojgaaa
set_option maxRecDepth 100000
set_option linter.unusedVariables false
set_option linter.unusedSimpArgs false
open Go.RowKit

end Go.Proofs.Yteihjneeiojgaaa
