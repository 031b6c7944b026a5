import Derived.Test.YtbpjgipldddcfaaGA
import Derived.Test.YtbpjgipldddcfaaGM
import Derived.Test.YtbpjgipldddcfaaGQ
import Derived.IntWalk
import Derived.WalkKit
import Derived.WalkSpells
import Derived.WalkLawsBesides
import Derived.Deep.QuietTactic
import Derived.BigQuiet
import Derived.Handy
import Derived.Lib.Hide
/-
  Contracts on lists of steps: Valid, At, put, Same and Greatest of the reference, Valid of the program. Conditions: none.
-/
namespace Go.Proofs.Ytbpjgipldddcfaa
set_option maxRecDepth 100000
set_option linter.unusedVariables false
set_option linter.unusedSimpArgs false
open Go.RowKit

theorem take_snocP {l : List (Int × Int)} {k : Nat} {x : Int × Int} (hx : l[k]? = some x) : l.take (k + 1) = l.take k ++ [x] := by
  obtain ⟨hj, rfl⟩ := List.getElem?_eq_some_iff.1 hx
  exact List.take_succ_eq_append_getElem hj
/-- Validity of a list of steps, from behind: the first k steps. -/
def pairB (p q : Int × Int) : Bool := !(decide (q.1 ≤ p.1) || decide (q.1 ≥ 1099511627776) || decide (q.2 = p.2))
theorem pairB_iff {p q : Int × Int} : pairB p q = true ↔ p.1 < q.1 ∧ q.1 < 1099511627776 ∧ q.2 ≠ p.2 := by
  simp [pairB]
  omega
theorem stT_snoc : ∀ (l : List (Int × Int)) (p q : Int × Int), stT p.1 p.2 (l ++ [q]) = (stT p.1 p.2 l && pairB ((l.getLast?).getD p) q)
  | [], p, q => by
    obtain ⟨y, m⟩ := q
    show stT p.1 p.2 [(y, m)] = _
    rw [Bool.eq_iff_iff, stT_cons]
    simp [stT, pairB_iff]
  | r :: l, p, q => by
    obtain ⟨y, m⟩ := r
    have ih := stT_snoc l (y, m) q
    have hl : (((y, m) :: l).getLast?).getD p = (l.getLast?).getD (y, m) := by
      cases l with
      | nil => rfl
      | cons a l => rw [List.getLast?_cons_cons]; cases h : (a :: l).getLast? with
        | none => simp at h
        | some b => rfl
    rw [List.cons_append, stT, stT, hl, ih]
    simp only [Bool.and_assoc]
theorem stV_take {l : List (Int × Int)} {k : Nat} {p q : Int × Int} (hk : l[k]? = some p) (hq : l[k + 1]? = some q) : stV (l.take (k + 1 + 1)) = (stV (l.take (k + 1)) && pairB p q) := by
  rw [take_snocP hq, take_snocP hk]
  cases ht : l.take k with
  | nil =>
    obtain ⟨x, n⟩ := p
    show (decide (x = 0) && stT x n [q]) = (decide (x = 0) && stT x n [] && pairB (x, n) q)
    have h := stT_snoc [] (x, n) q
    simp only [List.nil_append, List.getLast?_nil, Option.getD_none] at h
    rw [h, Bool.and_assoc]
  | cons r t =>
    obtain ⟨x, n⟩ := r
    rw [List.cons_append, List.cons_append]
    show (decide (x = 0) && stT x n (t ++ [p] ++ [q])) = (decide (x = 0) && stT x n (t ++ [p]) && pairB p q)
    rw [stT_snoc (t ++ [p]) (x, n) q, Bool.and_assoc]
    simp
theorem stV_pre {l : List (Int × Int)} {k : Nat} (hk : 0 < k) (h : stV (l.take k) = false) : stV l = false := by
  have hT : ∀ (l : List (Int × Int)) (x n : Int) (k : Nat), stT x n l = true → stT x n (l.take k) = true := by
    intro l
    induction l with
    | nil => intro x n k h; simpa using h
    | cons r l ih =>
      intro x n k h
      obtain ⟨y, m⟩ := r
      obtain ⟨h1, h2, h3, h4⟩ := stT_cons.1 h
      cases k with
      | zero => rfl
      | succ k => exact stT_cons.2 ⟨h1, h2, h3, ih y m k h4⟩
  cases l with
  | nil => rfl
  | cons r l =>
    obtain ⟨x, n⟩ := r
    obtain ⟨k, rfl⟩ : ∃ j, k = j + 1 := ⟨k - 1, by omega⟩
    rw [Bool.eq_false_iff]
    intro hv
    rw [List.take_succ_cons] at h
    have hv2 : (decide (x = 0) && stT x n l) = true := hv
    rw [Bool.and_eq_true] at hv2
    have : stV ((x, n) :: l.take k) = true := by
      show (decide (x = 0) && stT x n (l.take k)) = true
      rw [hv2.1, hT l x n k hv2.2]; rfl
    rw [this] at h
    cases h
end Go.Proofs.Ytbpjgipldddcfaa
