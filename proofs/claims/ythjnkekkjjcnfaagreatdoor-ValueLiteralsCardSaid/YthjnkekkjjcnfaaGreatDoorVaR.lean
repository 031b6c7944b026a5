/-
  Values and their literals: a valid value is read back from its literal, and what is read has that literal. Conditions: none.
-/
import Derived.Test.YthjnkekkjjcnfaaGreatDoorVaM
import Derived.WalkKit
import Derived.WalkSpells
import Derived.WalkLawsBesides
import Derived.Deep.QuietTactic
import Derived.BigQuiet
import Derived.Handy
import Derived.Lib.Hide
namespace Go.Proofs.YthjnkekkjjcnfaaGreatDoor
open Go.RowKit

theorem numG_head {s : List UInt8} (h : numG s = true) : Lib.hasPrefix s [39] = false := by
  unfold numG at h
  rw [Bool.and_eq_true] at h
  have hd := numOk_all' h.1
  have hne := numOk_ne' h.1
  unfold Lib.hasPrefix
  cases s with
  | nil => rfl
  | cons c r =>
    by_cases hc : c = 39
    · exfalso
      subst hc
      have ha : absL (39 :: r) = 39 :: r := rfl
      rw [ha, List.all_cons, Bool.and_eq_true] at hd
      exact absurd hd.1 (by decide)
    · have : (39 : UInt8) ≠ c := Ne.symm hc
      simp [List.isPrefixOf, this]
theorem quo_head (t : List UInt8) : Lib.hasPrefix (quo t) [39] = true := by
  unfold Lib.hasPrefix quo; simp [List.isPrefixOf]
theorem parP_num {s : List UInt8} (h : numG s = true) : parP s = numP s := by
  unfold parP
  rw [if_neg (by intro e; rw [e] at h; exact absurd h (by decide)), if_neg (by intro e; rw [e] at h; exact absurd h (by decide)), if_neg (by intro e; rw [e] at h; exact absurd h (by decide)), if_neg (by rw [numG_head h]; simp)]
theorem parP_quo (t : List UInt8) : parP (quo t) = texP (quo t) := by
  have hh : ∀ l : List UInt8, l.head? ≠ some 39 → quo t ≠ l := by
    intro l hl e; rw [← e] at hl; exact hl rfl
  unfold parP
  rw [if_neg (hh _ (by decide)), if_neg (hh _ (by decide)), if_neg (hh _ (by decide)), if_pos (quo_head t)]
theorem texP_quo {t : List UInt8} (hp : prnL t = true) (hn : t.length ≤ 200) : texP (quo t) = (2, 0, t, 0) := by
  unfold texP
  rw [inn_quo, if_pos ⟨rfl, hp⟩, if_neg (by omega)]
/-- A valid value is read back. -/
theorem back_val {k n : Int} {s : ByteArray} (h : vldV k n s = true) : parP (litV k n s) = (k, n, s.data.toList, 0) := by
  unfold litV
  rw [if_pos h]
  rcases vld_kind h with ⟨rfl, rfl, h3⟩ | ⟨rfl, h1, h2, h3⟩ | ⟨rfl, rfl, h1, h2⟩ | ⟨rfl, h1, h3⟩
  · rw [nil_of_toList h3]; decide
  · rw [nil_of_toList h3, if_neg (by decide), if_neg (by decide), if_neg (by decide)]
    obtain ⟨e1, e2⟩ := num_itoa n
    rw [parP_num e1]
    unfold numP
    rw [if_pos e1, e2, if_pos ⟨h1, h2⟩]
  · rw [if_neg (by decide), if_neg (by decide), if_pos rfl, parP_quo, texP_quo h2 (by rw [← Lib.size_eq]; omega)]
  · rw [nil_of_toList h3]
    rcases h1 with rfl | rfl
    · decide
    · decide
theorem vld_intro {k n : Int} {s : ByteArray} (h : (k = 0 ∧ n = 0 ∧ s.toList = []) ∨ (k = 1 ∧ -1125899906842624 ≤ n ∧ n ≤ 1125899906842624 ∧ s.toList = []) ∨ (k = 2 ∧ n = 0 ∧ s.size ≤ 200 ∧ prnL s.data.toList = true) ∨ (k = 3 ∧ (n = 0 ∨ n = 1) ∧ s.toList = [])) : vldV k n s = true := by
  unfold vldV emp
  rcases h with ⟨rfl, rfl, h3⟩ | ⟨rfl, h1, h2, h3⟩ | ⟨rfl, rfl, h1, h2⟩ | ⟨rfl, h1, h3⟩
  · rw [h3]; rfl
  · rw [h3, if_neg (by decide), if_pos rfl, decide_eq_true h1, decide_eq_true h2]; rfl
  · rw [if_neg (by decide), if_neg (by decide), if_pos rfl, decide_eq_true h1, h2]; rfl
  · rw [h3]; rcases h1 with rfl | rfl <;> rfl
theorem nil_toList : (ByteArray.mk ([] : List UInt8).toArray).toList = [] := by rw [Lib.toList_data]
/-- What is read is valid, and its literal is what was read; what is not read is the null. -/
theorem back_str (s : List UInt8) : ((parP s).2.2.2 = 0 ∧ vldV (parP s).1 (parP s).2.1 ⟨(parP s).2.2.1.toArray⟩ = true ∧ litV (parP s).1 (parP s).2.1 ⟨(parP s).2.2.1.toArray⟩ = s) ∨ ((parP s).2.2.2 ≠ 0 ∧ (parP s).1 = 0 ∧ (parP s).2.1 = 0 ∧ (parP s).2.2.1 = []) := by
  by_cases c1 : s = sNull
  · subst c1
    have e : parP sNull = (0, 0, [], 0) := by decide
    rw [e]
    refine .inl ⟨rfl, vld_intro (.inl ⟨rfl, rfl, nil_toList⟩), ?_⟩
    unfold litV; rw [if_pos (vld_intro (.inl ⟨rfl, rfl, nil_toList⟩)), if_pos rfl]; rfl
  by_cases c2 : s = sTrue
  · subst c2
    have e : parP sTrue = (3, 1, [], 0) := by decide
    rw [e]
    refine .inl ⟨rfl, vld_intro (.inr (.inr (.inr ⟨rfl, .inr rfl, nil_toList⟩))), ?_⟩
    unfold litV; rw [if_pos (vld_intro (.inr (.inr (.inr ⟨rfl, .inr rfl, nil_toList⟩)))), if_neg (by decide), if_pos rfl, if_pos rfl]; rfl
  by_cases c3 : s = sFalse
  · subst c3
    have e : parP sFalse = (3, 0, [], 0) := by decide
    rw [e]
    refine .inl ⟨rfl, vld_intro (.inr (.inr (.inr ⟨rfl, .inl rfl, nil_toList⟩))), ?_⟩
    unfold litV; rw [if_pos (vld_intro (.inr (.inr (.inr ⟨rfl, .inl rfl, nil_toList⟩)))), if_neg (by decide), if_pos rfl, if_neg (by decide)]; rfl
  have e : parP s = if Lib.hasPrefix s [39] then texP s else numP s := by
    unfold parP; rw [if_neg c1, if_neg c2, if_neg c3]
  cases hp : Lib.hasPrefix s [39] <;> rw [hp] at e
  · rw [if_neg (by simp)] at e
    rw [e]
    unfold numP
    cases hg : numG s
    · rw [if_neg (by simp)]; exact .inr ⟨by decide, rfl, rfl, rfl⟩
    · rw [if_pos rfl]
      by_cases hr : -1125899906842624 ≤ sgnV s ∧ sgnV s ≤ 1125899906842624
      · rw [if_pos hr]
        have hv : vldV 1 (sgnV s) ⟨([] : List UInt8).toArray⟩ = true := vld_intro (.inr (.inl ⟨rfl, hr.1, hr.2, nil_toList⟩))
        refine .inl ⟨rfl, hv, ?_⟩
        unfold litV
        rw [if_pos hv, if_neg (show ¬ (1 : Int) = 0 by decide), if_neg (show ¬ (1 : Int) = 3 by decide), if_neg (show ¬ (1 : Int) = 2 by decide)]
        exact itoa_num hg
      · rw [if_neg hr]; exact .inr ⟨by decide, rfl, rfl, rfl⟩
  · rw [if_pos rfl] at e
    rw [e]
    unfold texP
    by_cases hq : quo (innT s) = s ∧ prnL (innT s) = true
    · rw [if_pos hq]
      by_cases hn : 200 < (innT s).length
      · rw [if_pos hn]; exact .inr ⟨by decide, rfl, rfl, rfl⟩
      · rw [if_neg hn]
        have hv : vldV 2 0 ⟨(innT s).toArray⟩ = true := vld_intro (.inr (.inr (.inl ⟨rfl, rfl, by rw [size_toArray]; omega, hq.2⟩)))
        refine .inl ⟨rfl, hv, ?_⟩
        unfold litV
        rw [if_pos hv, if_neg (show ¬ (2 : Int) = 0 by decide), if_neg (show ¬ (2 : Int) = 3 by decide), if_pos rfl]
        exact hq.1
    · rw [if_neg hq]; exact .inr ⟨by decide, rfl, rfl, rfl⟩
end Go.Proofs.YthjnkekkjjcnfaaGreatDoor
