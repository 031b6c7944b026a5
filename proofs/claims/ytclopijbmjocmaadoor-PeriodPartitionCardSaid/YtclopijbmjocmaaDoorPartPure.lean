/-
  Plain facts for the statement PeriodPartition: how many of the pieces contain an instant. Conditions: none.
-/
import Derived.Test.YtclopijbmjocmaaDoorCombines
namespace Go.Proofs.YtclopijbmjocmaaDoor

def cN (l : List (Int × Int)) (t : Int) : Nat := (l.filter fun p => cnt p.1 p.2 t).length
theorem cN_step {l : List (Int × Int)} {k : Nat} {p : Int × Int} (h : l[k]? = some p) (t : Int) : cN (l.take (k + 1)) t = cN (l.take k) t + (if cnt p.1 p.2 t then 1 else 0) := by
  unfold cN
  rw [List.take_add_one, h, List.filter_append, List.length_append]
  cases hc : cnt p.1 p.2 t <;> simp [hc]
theorem cN_le (l : List (Int × Int)) (t : Int) : cN l t ≤ l.length := List.length_filter_le _ _

theorem cnt_iff (a b t : Int) : cnt a b t = true ↔ 0 ≤ a ∧ a < b ∧ b ≤ 1099511627776 ∧ a ≤ t ∧ t < b := by simp [cnt, vld, and_assoc]
theorem vld_iff (a b : Int) : vld a b = true ↔ 0 ≤ a ∧ a < b ∧ b ≤ 1099511627776 := by simp [vld, and_assoc]
theorem ovl_iff (a b c d : Int) : ovl a b c d = true ↔ (0 ≤ a ∧ a < b ∧ b ≤ 1099511627776) ∧ (0 ≤ c ∧ c < d ∧ d ≤ 1099511627776) ∧ a < d ∧ c < b := by simp [ovl, vld, and_assoc]
theorem adj_iff (a b c d : Int) : adj a b c d = true ↔ (0 ≤ a ∧ a < b ∧ b ≤ 1099511627776) ∧ (0 ≤ c ∧ c < d ∧ d ≤ 1099511627776) ∧ (b = c ∨ d = a) := by simp [adj, vld, and_assoc]

theorem sub_len (a b c d : Int) : (subP a b c d).length ≤ 2 := by
  unfold subP; (repeat' split) <;> simp

theorem cN_one (x y t : Int) : cN [(x, y)] t = if cnt x y t then 1 else 0 := by
  unfold cN; cases h : cnt x y t <;> simp [h]
theorem cN_two (x y u v t : Int) : cN [(x, y), (u, v)] t = (if cnt x y t then 1 else 0) + (if cnt u v t then 1 else 0) := by
  unfold cN; cases h : cnt x y t <;> cases h' : cnt u v t <;> simp [h, h']

theorem part_math (a b c d t : Int) : (if (ovl a b c d && cnt (isX a b c d) (isY a b c d) t) = true then 1 else 0) + cN (subP a b c d) t = if cnt a b t = true then 1 else 0 := by
  unfold subP isX isY
  cases hv : vld a b
  · have ho : ovl a b c d = false := by
      rw [Bool.eq_false_iff]; intro h
      have := (ovl_iff a b c d).1 h
      rw [(vld_iff a b).2 this.1] at hv; cases hv
    have hc : cnt a b t = false := by
      rw [Bool.eq_false_iff]; intro h
      have := (cnt_iff a b t).1 h
      rw [(vld_iff a b).2 ⟨this.1, this.2.1, this.2.2.1⟩] at hv; cases hv
    rw [ho, hc]; rfl
  · have hv' := (vld_iff a b).1 hv
    cases ho : ovl a b c d
    · simp only [Bool.false_and, Bool.false_eq_true, if_false, Bool.true_eq_false, if_true]
      rw [cN_one]; omega
    · have ho' := (ovl_iff a b c d).1 ho
      simp only [Bool.true_and, Bool.true_eq_false, if_false, if_true]
      by_cases h1 : a < c <;> by_cases h2 : d < b
      · rw [if_pos h1, if_pos h2]
        show _ + cN [(a, c), (d, b)] t = _
        rw [cN_two]; simp only [cnt_iff]; (repeat' split) <;> omega
      · rw [if_pos h1, if_neg h2]
        show _ + cN [(a, c)] t = _
        rw [cN_one]; simp only [cnt_iff]; (repeat' split) <;> omega
      · rw [if_neg h1, if_pos h2]
        show _ + cN [(d, b)] t = _
        rw [cN_one]; simp only [cnt_iff]; (repeat' split) <;> omega
      · rw [if_neg h1, if_neg h2]
        show _ + cN [] t = _
        simp only [cN, List.filter_nil, List.length_nil, cnt_iff]; (repeat' split) <;> omega

theorem merge_math (a b c d t : Int) (h : mrg a b c d = true) : cnt (mgX a b c d) (mgY a b c d) t = (cnt a b t || cnt c d t) := by
  have h' : (0 ≤ a ∧ a < b ∧ b ≤ 1099511627776) ∧ (0 ≤ c ∧ c < d ∧ d ≤ 1099511627776) ∧ ((a < d ∧ c < b) ∨ b = c ∨ d = a) := by
    unfold mrg at h
    rcases Bool.or_eq_true_iff.1 h with h | h
    · have := (ovl_iff a b c d).1 h; exact ⟨this.1, this.2.1, .inl this.2.2⟩
    · have := (adj_iff a b c d).1 h; exact ⟨this.1, this.2.1, .inr this.2.2⟩
  unfold mgX mgY
  rw [h, if_pos rfl, if_pos rfl, Bool.eq_iff_iff, Bool.or_eq_true_iff, cnt_iff, cnt_iff, cnt_iff]
  omega
end Go.Proofs.YtclopijbmjocmaaDoor
