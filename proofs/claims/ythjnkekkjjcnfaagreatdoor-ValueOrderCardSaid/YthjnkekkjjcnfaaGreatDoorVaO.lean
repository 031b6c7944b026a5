/-
  Values: the comparison is a total order. Conditions: the tables lie as the rows say.
-/
import Derived.Test.YthjnkekkjjcnfaaGreatDoorVaM
import Derived.WalkKit
import Derived.WalkSpells
import Derived.WalkLawsBesides
import Derived.Deep.QuietTactic
import Derived.BigQuiet
import Derived.Handy
import Derived.Lib.Hide
namespace Go.Proofs.YthjnkekkjjcnfaaGreatDoor
open Go.RowKit

/-! ### the order is total -/
theorem cb_range : ∀ l m : List UInt8, Lib.compareBytes l m = -1 ∨ Lib.compareBytes l m = 0 ∨ Lib.compareBytes l m = 1 := by
  intro l m
  rw [cb_spec]
  split
  · exact .inl rfl
  · split
    · exact .inr (.inl rfl)
    · exact .inr (.inr rfl)
theorem lt_or_lt {a b : UInt8} (h1 : ¬ a < b) (h2 : ¬ b < a) : a = b := by
  have h3 : ¬ a.toNat < b.toNat := h1
  have h4 : ¬ b.toNat < a.toNat := h2
  exact UInt8.toNat_inj.1 (by omega)
theorem not_both {a b : UInt8} (h1 : a < b) (h2 : b < a) : False := by
  have h3 : a.toNat < b.toNat := h1
  have h4 : b.toNat < a.toNat := h2
  omega
theorem not_self {a : UInt8} (h1 : a < a) : False := not_both h1 h1
theorem lt_tr {a b c : UInt8} (h1 : a < b) (h2 : b < c) : a < c := by
  have h3 : a.toNat < b.toNat := h1
  have h4 : b.toNat < c.toNat := h2
  show a.toNat < c.toNat
  omega
theorem cb_cons (a b : UInt8) (x y : List UInt8) : Lib.compareBytes (a :: x) (b :: y) = if a < b then -1 else if b < a then 1 else Lib.compareBytes x y := rfl
theorem cb_anti : ∀ l m : List UInt8, Lib.compareBytes m l = -Lib.compareBytes l m
  | [], [] => rfl
  | [], _ :: _ => rfl
  | _ :: _, [] => rfl
  | a :: x, b :: y => by
    rw [cb_cons, cb_cons, cb_anti x y]
    by_cases h1 : a < b
    · rw [if_neg (fun h => not_both h1 h), if_pos h1, if_pos h1]; rfl
    · by_cases h2 : b < a
      · rw [if_pos h2, if_neg h1, if_pos h2]
      · rw [if_neg h2, if_neg h1, if_neg h1, if_neg h2]
theorem cb_zero : ∀ l m : List UInt8, Lib.compareBytes l m = 0 ↔ l = m
  | [], [] => by simp [Lib.compareBytes]
  | [], _ :: _ => by simp [Lib.compareBytes]
  | _ :: _, [] => by simp [Lib.compareBytes]
  | a :: x, b :: y => by
    rw [cb_cons]
    by_cases h1 : a < b
    · rw [if_pos h1]
      refine ⟨fun h => by omega, fun h => ?_⟩
      injection h with h _; subst h; exact (not_self h1).elim
    · by_cases h2 : b < a
      · rw [if_neg h1, if_pos h2]
        refine ⟨fun h => by omega, fun h => ?_⟩
        injection h with h _; subst h; exact (not_self h2).elim
      · rw [if_neg h1, if_neg h2, cb_zero x y, lt_or_lt h1 h2]
        simp
theorem cb_trans : ∀ l m n : List UInt8, Lib.compareBytes l m ≤ 0 → Lib.compareBytes m n ≤ 0 → Lib.compareBytes l n ≤ 0
  | [], [], n, _, h => h
  | [], _ :: _, [], _, h => by simp [Lib.compareBytes] at h
  | [], _ :: _, _ :: _, _, _ => by simp [Lib.compareBytes]
  | _ :: _, [], _, h, _ => by simp [Lib.compareBytes] at h
  | a :: x, b :: y, [], _, h => by simp [Lib.compareBytes] at h
  | a :: x, b :: y, c :: z, h1, h2 => by
    rw [cb_cons] at h1 h2 ⊢
    by_cases p1 : a < b
    · by_cases p2 : b < c
      · rw [if_pos (lt_tr p1 p2)]; omega
      · rw [if_neg p2] at h2
        by_cases p3 : c < b
        · rw [if_pos p3] at h2; omega
        · rw [← lt_or_lt p2 p3, if_pos p1]; omega
    · rw [if_neg p1] at h1
      by_cases p3 : b < a
      · rw [if_pos p3] at h1; omega
      · rw [if_neg p3] at h1
        have e := lt_or_lt p1 p3
        subst e
        by_cases p2 : a < c
        · rw [if_pos p2]; omega
        · rw [if_neg p2] at h2 ⊢
          by_cases p4 : c < a
          · rw [if_pos p4] at h2; omega
          · rw [if_neg p4] at h2 ⊢
            exact cb_trans x y z h1 h2
theorem cmpV_range (k n : Int) (s : ByteArray) (k2 n2 : Int) (s2 : ByteArray) : cmpV k n s k2 n2 s2 = -1 ∨ cmpV k n s k2 n2 s2 = 0 ∨ cmpV k n s k2 n2 s2 = 1 := by
  unfold cmpV
  have := cb_range s.data.toList s2.data.toList
  split; · exact .inl rfl
  split; · exact .inr (.inr rfl)
  split; · exact .inl rfl
  split; · exact .inr (.inr rfl)
  exact this
theorem cmpV_anti (k n : Int) (s : ByteArray) (k2 n2 : Int) (s2 : ByteArray) : cmpV k2 n2 s2 k n s = -cmpV k n s k2 n2 s2 := by
  unfold cmpV
  rw [cb_anti s.data.toList s2.data.toList]
  rcases Int.lt_trichotomy k k2 with h | h | h
  · rw [if_neg (by omega), if_pos h, if_pos h]; rfl
  · subst h
    rcases Int.lt_trichotomy n n2 with h | h | h
    · simp only [Int.lt_irrefl, if_false]
      rw [if_neg (by omega), if_pos h, if_pos h]; rfl
    · subst h; simp
    · simp only [Int.lt_irrefl, if_false]
      rw [if_pos h, if_neg (by omega), if_pos h]
  · rw [if_pos h, if_neg (by omega), if_pos h]
theorem data_inj {s s2 : ByteArray} (h : s.data.toList = s2.data.toList) : s = s2 := by
  obtain ⟨⟨l⟩⟩ := s; obtain ⟨⟨m⟩⟩ := s2; simp at h; subst h; rfl
theorem cmpV_zero (k n : Int) (s : ByteArray) (k2 n2 : Int) (s2 : ByteArray) : eqV k n s k2 n2 s2 = decide (cmpV k n s k2 n2 s2 = 0) := by
  rw [Bool.eq_iff_iff, decide_eq_true_eq]
  unfold eqV cmpV
  simp only [Bool.and_eq_true, beq_iff_eq, Lib.toList_data]
  constructor
  · rintro ⟨rfl, rfl, h⟩
    rw [h]
    simp [(cb_zero _ _).2 rfl]
  · intro h
    rcases Int.lt_trichotomy k k2 with h1 | h1 | h1
    · rw [if_pos h1] at h; omega
    · subst h1
      rcases Int.lt_trichotomy n n2 with h2 | h2 | h2
      · simp only [Int.lt_irrefl, if_false] at h; rw [if_pos h2] at h; omega
      · subst h2
        simp only [Int.lt_irrefl, if_false] at h
        exact ⟨rfl, rfl, (cb_zero _ _).1 h⟩
      · simp only [Int.lt_irrefl, if_false] at h; rw [if_neg (by omega), if_pos h2] at h; omega
    · rw [if_neg (by omega), if_pos h1] at h; omega
theorem cmpV_trans (k n : Int) (s : ByteArray) (k2 n2 : Int) (s2 : ByteArray) (k3 n3 : Int) (s3 : ByteArray) (h1 : cmpV k n s k2 n2 s2 ≤ 0) (h2 : cmpV k2 n2 s2 k3 n3 s3 ≤ 0) : cmpV k n s k3 n3 s3 ≤ 0 := by
  unfold cmpV at *
  have ht := cb_trans s.data.toList s2.data.toList s3.data.toList
  by_cases a1 : k < k2 <;> by_cases a2 : k2 < k <;> by_cases a3 : k2 < k3 <;> by_cases a4 : k3 < k2 <;> by_cases a5 : k < k3 <;> by_cases a6 : k3 < k
  all_goals (first | (exfalso; omega) | skip)
  all_goals simp only [a1, a2, a3, a4, a5, a6, if_true, if_false] at h1 h2 ⊢
  all_goals (first | omega | skip)
  all_goals
    by_cases b1 : n < n2 <;> by_cases b2 : n2 < n <;> by_cases b3 : n2 < n3 <;> by_cases b4 : n3 < n2 <;> by_cases b5 : n < n3 <;> by_cases b6 : n3 < n
  all_goals (first | (exfalso; omega) | skip)
  all_goals simp only [b1, b2, b3, b4, b5, b6, if_true, if_false] at h1 h2 ⊢
  all_goals (first | omega | exact ht h1 h2)
end Go.Proofs.YthjnkekkjjcnfaaGreatDoor
