/-
  What the table says: the relations that occur between three periods, whatever their bounds. Conditions: none.
-/
import Derived.Test.YtmmecpmeemhglaaDoorComp
namespace Go.Proofs.YtmmecpmeemhglaaDoor

/-- The entry of the table at i, j has the bit c just if three of the fifteen periods stand so. -/
theorem tbN_bit (m : Nat) (hm : m ≤ 3375) (x c : Nat) : (tbE m x).testBit c = true ↔ ∃ k, k < m ∧ x = relN (k / 225) (k / 15 % 15) * 13 + relN (k / 15 % 15) (k % 15) ∧ c = relN (k / 225) (k % 15) := by
  induction m with
  | zero =>
    have : tbE 0 x = 0 := by
      unfold tbE tbN
      simp only [List.range_zero, List.foldl_nil]
      rw [List.getD_eq_getElem?_getD, List.getElem?_replicate]
      split <;> rfl
    rw [this]
    simp
  | succ m ih =>
    have ih := ih (by omega)
    have e : tbE (m + 1) x = if x = relN (m / 225) (m / 15 % 15) * 13 + relN (m / 15 % 15) (m % 15) then tbE m x ||| 2 ^ relN (m / 225) (m % 15) else tbE m x := by
      unfold tbE
      rw [tbN_succ]
      unfold tbS
      rw [List.getD_eq_getElem?_getD, List.getElem?_set]
      have l1 := relN_lt (m / 225) (m / 15 % 15) (by omega) (by omega)
      have l2 := relN_lt (m / 15 % 15) (m % 15) (by omega) (by omega)
      by_cases hx : x = relN (m / 225) (m / 15 % 15) * 13 + relN (m / 15 % 15) (m % 15)
      · subst hx
        rw [if_pos rfl, if_pos rfl, if_pos (by rw [tbN_len]; omega)]
        rfl
      · rw [if_neg (fun h => hx h.symm), if_neg hx, ← List.getD_eq_getElem?_getD]
    rw [e]
    constructor
    · intro h
      split at h
      · rename_i hx
        rw [Nat.testBit_or, Bool.or_eq_true] at h
        rcases h with h | h
        · obtain ⟨k, hk, h1, h2⟩ := ih.1 h
          exact ⟨k, by omega, h1, h2⟩
        · rw [Nat.testBit_two_pow] at h
          exact ⟨m, by omega, hx, (of_decide_eq_true h).symm⟩
      · obtain ⟨k, hk, h1, h2⟩ := ih.1 h
        exact ⟨k, by omega, h1, h2⟩
    · rintro ⟨k, hk, h1, h2⟩
      by_cases hkm : k = m
      · subst hkm
        rw [if_pos h1, Nat.testBit_or, Nat.testBit_two_pow, h2]
        simp
      · have := ih.2 ⟨k, by omega, h1, h2⟩
        split
        · rw [Nat.testBit_or, this]; rfl
        · exact this
theorem tb_bit (i j c : Nat) (_hi : i < 13) (hj : j < 13) : (tb i j).testBit c = true ↔ ∃ p q r, p < 15 ∧ q < 15 ∧ r < 15 ∧ relN p q = i ∧ relN q r = j ∧ relN p r = c := by
  unfold tb
  rw [tbN_bit 3375 (Nat.le_refl _)]
  constructor
  · rintro ⟨k, hk, h1, h2⟩
    have l1 := relN_lt (k / 225) (k / 15 % 15) (by omega) (by omega)
    have l2 := relN_lt (k / 15 % 15) (k % 15) (by omega) (by omega)
    exact ⟨k / 225, k / 15 % 15, k % 15, by omega, by omega, by omega, by omega, by omega, h2.symm⟩
  · rintro ⟨p, q, r, hp, hq, hr, h1, h2, h3⟩
    refine ⟨(p * 15 + q) * 15 + r, by omega, ?_, ?_⟩
    · rw [show ((p * 15 + q) * 15 + r) / 225 = p by omega, show ((p * 15 + q) * 15 + r) / 15 % 15 = q by omega, show ((p * 15 + q) * 15 + r) % 15 = r by omega, h1, h2]
    · rw [show ((p * 15 + q) * 15 + r) / 225 = p by omega, show ((p * 15 + q) * 15 + r) % 15 = r by omega, h3]

/-- How many of the numbers l lie below x. -/
def rk (l : List Int) (x : Int) : Nat := (l.filter fun y => decide (y < x)).length
theorem rk_le (l : List Int) {x y : Int} (h : x ≤ y) : rk l x ≤ rk l y := by
  unfold rk
  induction l with
  | nil => simp
  | cons a l ih =>
    simp only [List.filter_cons]
    by_cases h1 : a < x
    · rw [if_pos (by simpa using h1), if_pos (by simp; omega)]
      simp only [List.length_cons]; omega
    · rw [if_neg (by simpa using h1)]
      split
      · simp only [List.length_cons]; omega
      · exact ih
theorem rk_lt (l : List Int) {x y : Int} (hx : x ∈ l) (h : x < y) : rk l x < rk l y := by
  induction l with
  | nil => cases hx
  | cons a l ih =>
    have hle := rk_le l (show x ≤ y by omega)
    unfold rk at *
    simp only [List.filter_cons]
    by_cases h1 : a < x
    · rw [if_pos (by simpa using h1), if_pos (by simp; omega)]
      simp only [List.length_cons]
      have := ih (by rcases List.mem_cons.1 hx with rfl | h2; omega; exact h2)
      omega
    · rw [if_neg (by simpa using h1)]
      by_cases h2 : a < y
      · rw [if_pos (by simpa using h2)]
        simp only [List.length_cons]
        omega
      · rw [if_neg (by simpa using h2)]
        exact ih (by rcases List.mem_cons.1 hx with rfl | h3; omega; exact h3)
theorem rk_top (l : List Int) {x : Int} (hx : x ∈ l) : rk l x < l.length := by
  induction l with
  | nil => cases hx
  | cons a l ih =>
    have hle : rk l x ≤ l.length := by unfold rk; exact List.length_filter_le _ _
    unfold rk at *
    simp only [List.filter_cons, List.length_cons]
    by_cases h1 : a < x
    · rw [if_pos (by simpa using h1)]
      have := ih (by rcases List.mem_cons.1 hx with rfl | h2; omega; exact h2)
      simp only [List.length_cons]; omega
    · rw [if_neg (by simpa using h1)]; omega
theorem rk_iff (l : List Int) {x y : Int} (hx : x ∈ l) (_hy : y ∈ l) : (((rk l x : Nat) : Int) < (rk l y : Nat)) ↔ x < y := by
  constructor
  · intro h
    rcases Int.lt_or_le x y with h1 | h1
    · exact h1
    · have := rk_le l h1; omega
  · intro h; have := rk_lt l hx h; omega
theorem rk_eq (l : List Int) {x y : Int} (hx : x ∈ l) (hy : y ∈ l) : (((rk l x : Nat) : Int) = (rk l y : Nat)) ↔ x = y := by
  have h1 := rk_iff l hx hy
  have h2 := rk_iff l hy hx
  constructor
  · intro h
    rcases Int.lt_trichotomy x y with h3 | h3 | h3
    · have := h1.2 h3; omega
    · exact h3
    · have := h2.2 h3; omega
  · rintro rfl; rfl
theorem relV_rk (l : List Int) {a b c d : Int} (ha : a ∈ l) (hb : b ∈ l) (hc : c ∈ l) (hd : d ∈ l) : relV (rk l a : Nat) (rk l b : Nat) (rk l c : Nat) (rk l d : Nat) = relV a b c d := by
  unfold relV sgn
  simp only [rk_iff l hb hc, rk_eq l hb hc, rk_eq l hd ha, rk_iff l hd ha, rk_iff l ha hc, rk_iff l hc ha, rk_iff l hb hd, rk_iff l hd hb]
theorem sm_at : ∀ t : Fin 6, ∀ f : Fin 6, f.val < t.val → sf (tri t.val + f.val) = (f.val : Int) ∧ st (tri t.val + f.val) = (t.val : Int) ∧ tri t.val + f.val < 15 := by decide
theorem vld_iff (a b : Int) : vld a b = true ↔ 0 ≤ a ∧ a < b ∧ b ≤ 1099511627776 := by unfold vld; simp [and_assoc]
/-- The one of the fifteen periods that stands for the period (a, b) among the bounds l. -/
theorem small_of (l : List Int) (hl : l.length = 6) {a b : Int} (ha : a ∈ l) (hb : b ∈ l) (h : a < b) : ∃ k, k < 15 ∧ sf k = (rk l a : Nat) ∧ st k = (rk l b : Nat) := by
  have h1 := rk_top l ha
  have h2 := rk_top l hb
  have h3 := rk_lt l ha h
  rw [hl] at h1 h2
  obtain ⟨e1, e2, e3⟩ := sm_at ⟨rk l b, h2⟩ ⟨rk l a, h1⟩ h3
  exact ⟨_, e3, e1, e2⟩
theorem relPQ_rk (l : List Int) (hl : l.length = 6) {a b c d : Int} (ha : a ∈ l) (hb : b ∈ l) (hc : c ∈ l) (hd : d ∈ l) (hab : vld a b = true) (hcd : vld c d = true) (p q : Nat)
    (hp1 : sf p = (rk l a : Nat)) (hp2 : st p = (rk l b : Nat)) (hq1 : sf q = (rk l c : Nat)) (hq2 : st q = (rk l d : Nat)) : relPQ p q = relR a b c d := by
  have h1 := (vld_iff a b).1 hab
  have h2 := (vld_iff c d).1 hcd
  have t1 := rk_top l hb
  have t2 := rk_top l hd
  have s1 := rk_lt l ha h1.2.1
  have s2 := rk_lt l hc h2.2.1
  unfold relPQ
  rw [hp1, hp2, hq1, hq2]
  unfold relR bothV
  rw [hab, hcd, (vld_iff _ _).2 ⟨by omega, by omega, by omega⟩, (vld_iff _ _).2 ⟨by omega, by omega, by omega⟩]
  simp only [Bool.and_self, if_true]
  exact relV_rk l ha hb hc hd
theorem relR_lt (a b c d : Int) : 0 ≤ relR a b c d ∧ relR a b c d < 13 := by
  unfold relR relV ovAt
  repeat' split
  all_goals omega
/-- The relation of p to r is among the compositions of those of p to q and of q to r. -/
theorem tb_sound {a b c d e f : Int} (h1 : vld a b = true) (h2 : vld c d = true) (h3 : vld e f = true) : (tb (relR a b c d).toNat (relR c d e f).toNat).testBit (relR a b e f).toNat = true := by
  have l1 := relR_lt a b c d
  have l2 := relR_lt c d e f
  rw [tb_bit _ _ _ (by omega) (by omega)]
  have v1 := (vld_iff a b).1 h1
  have v2 := (vld_iff c d).1 h2
  have v3 := (vld_iff e f).1 h3
  obtain ⟨p, hp, p1, p2⟩ := small_of [a, b, c, d, e, f] rfl (a := a) (b := b) (by simp) (by simp) v1.2.1
  obtain ⟨q, hq, q1, q2⟩ := small_of [a, b, c, d, e, f] rfl (a := c) (b := d) (by simp) (by simp) v2.2.1
  obtain ⟨r, hr, r1, r2⟩ := small_of [a, b, c, d, e, f] rfl (a := e) (b := f) (by simp) (by simp) v3.2.1
  refine ⟨p, q, r, hp, hq, hr, ?_, ?_, ?_⟩
  · unfold relN; rw [relPQ_rk [a, b, c, d, e, f] rfl (by simp) (by simp) (by simp) (by simp) h1 h2 p q p1 p2 q1 q2]
  · unfold relN; rw [relPQ_rk [a, b, c, d, e, f] rfl (by simp) (by simp) (by simp) (by simp) h2 h3 q r q1 q2 r1 r2]
  · unfold relN; rw [relPQ_rk [a, b, c, d, e, f] rfl (by simp) (by simp) (by simp) (by simp) h1 h3 p r p1 p2 r1 r2]
end Go.Proofs.YtmmecpmeemhglaaDoor
