import Derived.Test.YteihjneeiojgaaaSEoA
import Derived.Test.YteihjneeiojgaaaSEoC
import Derived.Test.YteihjneeiojgaaaSScR
import Derived.WalkKit
import Derived.WalkSpells
import Derived.WalkLawsBesides
import Derived.Deep.QuietTactic
import Derived.BigQuiet
import Derived.Handy
import Derived.Lib.Hide
/-
  The reference's columns, key, foreign: what they answer. Conditions: lengths.
-/
namespace Go.Proofs.Yteihjneeiojgaaa
set_option maxRecDepth 100000
set_option linter.unusedVariables false
set_option linter.unusedSimpArgs false
open Go.RowKit

theorem beq_name (a b : ByteArray) : (a.toList == b.toList) = decide (a.data.toList = b.data.toList) := by
  rw [ByteArray.toList_eq, ByteArray.toList_eq]
  by_cases h : a.data.toList = b.data.toList
  · rw [h]; simp
  · rw [decide_eq_false h]; simpa using h
theorem findK_lo (s : ByteArray) : ∀ (l : List Cl) (j : Nat), findK s j l = -1 ∨ (j : Int) ≤ findK s j l
  | [], _ => .inl rfl
  | c :: cs, j => by
    unfold findK
    by_cases h : (c.1.toList == s.toList) = true
    · rw [if_pos h]; exact .inr (Int.le_refl _)
    · rw [if_neg h]
      rcases findK_lo s cs (j + 1) with h1 | h1
      · exact .inl h1
      · exact .inr (by omega)
theorem findK_has (s : ByteArray) : ∀ (l : List Cl) (j k : Nat) (c : Cl), l[k]? = some c → c.1.data.toList = s.data.toList →
    (j : Int) ≤ findK s j l ∧ findK s j l ≤ (j + k : Nat) ∧ (findK s j l < ((j + k : Nat) : Int) ↔ s.data.toList ∈ (l.take k).map nmC)
  | [], _, _, _, h, _ => by simp at h
  | c0 :: cs, j, 0, c, h, hs => by
    simp at h
    subst h
    unfold findK
    rw [if_pos (by rw [beq_name]; exact decide_eq_true hs)]
    refine ⟨Int.le_refl _, by simp, by simp⟩
  | c0 :: cs, j, k + 1, c, h, hs => by
    have h' : cs[k]? = some c := by simpa using h
    unfold findK
    by_cases h0 : (c0.1.toList == s.toList) = true
    · rw [if_pos h0]
      rw [beq_name] at h0
      have h1 := of_decide_eq_true h0
      refine ⟨Int.le_refl _, by omega, ⟨fun _ => ?_, fun _ => by omega⟩⟩
      rw [List.take_succ_cons, List.map_cons]
      exact List.mem_cons.2 (.inl h1.symm)
    · rw [if_neg h0]
      rw [beq_name] at h0
      have h1 : ¬ c0.1.data.toList = s.data.toList := fun e => h0 (decide_eq_true e)
      obtain ⟨g1, g2, g3⟩ := findK_has s cs (j + 1) k c h' hs
      rw [show j + 1 + k = j + (k + 1) by omega] at g2 g3
      refine ⟨by omega, g2, g3.trans ?_⟩
      rw [List.take_succ_cons, List.map_cons, List.mem_cons]
      exact ⟨.inr, fun h => h.elim (fun e => absurd e.symm h1) id⟩
/-- An index of a table's column. -/
def exiB (n : Nat) (i : Int) : Bool := decide (0 ≤ i) && decide (i < n)
end Go.Proofs.Yteihjneeiojgaaa
