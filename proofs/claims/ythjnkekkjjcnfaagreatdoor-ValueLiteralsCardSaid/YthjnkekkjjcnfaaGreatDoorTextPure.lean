/-
  Plain facts on the text of a period: it is parsed back. Conditions: none.
-/
import Derived.Test.YthjnkekkjjcnfaaGreatDoorPure
import Derived.Lib.IndexLaws
namespace Go.Proofs.YthjnkekkjjcnfaaGreatDoor

theorem dec_big (n : Nat) (h : ¬ n < 10) : Lib.decDigits n = Lib.decDigits (n / 10) ++ [UInt8.ofNat (48 + n % 10)] := by
  rw [Lib.decDigits, dif_neg h]
theorem dec_small (n : Nat) (h : n < 10) : Lib.decDigits n = [UInt8.ofNat (48 + n)] := by
  rw [Lib.decDigits, dif_pos h]
theorem dig_nat (k : Nat) (h : k < 10) : (UInt8.ofNat (48 + k)).toNat = 48 + k := by
  exact (by decide : ∀ i : Fin 10, (UInt8.ofNat (48 + i.val)).toNat = 48 + i.val) ⟨k, h⟩
theorem isDig_nat (k : Nat) (h : k < 10) : isDig (UInt8.ofNat (48 + k)) = true := by
  have e := dig_nat k h
  exact dig_in (by omega) (by omega)
theorem dec_all (n : Nat) : (Lib.decDigits n).all isDig = true := by
  induction n using Nat.strongRecOn with
  | _ n ih =>
    by_cases h : n < 10
    · rw [dec_small n h, List.all_cons, isDig_nat n h]; rfl
    · rw [dec_big n h, List.all_append, ih (n / 10) (by omega), List.all_cons, isDig_nat (n % 10) (by omega)]; rfl
theorem dec_ne (n : Nat) : Lib.decDigits n ≠ [] := by
  by_cases h : n < 10
  · rw [dec_small n h]; simp
  · rw [dec_big n h]; simp
theorem dec_head (n : Nat) (h : 1 ≤ n) : ∃ c l, Lib.decDigits n = c :: l ∧ c ≠ 48 := by
  induction n using Nat.strongRecOn with
  | _ n ih =>
    by_cases h10 : n < 10
    · refine ⟨_, _, dec_small n h10, fun e => ?_⟩
      have e2 := dig_nat n h10
      rw [e] at e2
      have : (48 : UInt8).toNat = 48 := rfl
      omega
    · obtain ⟨c, l, hc, hne⟩ := ih (n / 10) (by omega) (by omega)
      exact ⟨c, l ++ [UInt8.ofNat (48 + n % 10)], by rw [dec_big n h10, hc]; rfl, hne⟩
theorem dec_good (n : Nat) : numBad (Lib.decDigits n) = false := by
  by_cases h : 1 ≤ n
  · obtain ⟨c, l, hc, hne⟩ := dec_head n h
    rw [hc]; simp [numBad, hne]
  · obtain rfl : n = 0 := by omega
    rw [dec_small 0 (by omega)]; rfl
theorem dec_ok (n : Nat) : numOk (Lib.decDigits n) = true := numOk_good (dec_good n) (dec_all n)
theorem dec_val (n : Nat) (h : n ≤ 1099511627776) : numVal (Lib.decDigits n) = n := by
  induction n using Nat.strongRecOn with
  | _ n ih =>
    by_cases h10 : n < 10
    · have e := dig_nat n h10
      rw [dec_small n h10]
      show min (10 * 0 + (((UInt8.ofNat (48 + n)).toNat : Int) - 48)) 1099511627776 = n
      omega
    · have e := dig_nat (n % 10) (by omega)
      rw [dec_big n h10, numVal_snoc, ih (n / 10) (by omega) (by omega)]
      omega
theorem dec_numN (n : Nat) (h : n ≤ 1099511627776) : numN (Lib.decDigits n) = n := by
  unfold numN; rw [if_pos (dec_ok n), dec_val n h]

theorem no_comma {l : List UInt8} (h : l.all isDig = true) (t : List UInt8) (i : Nat) (hi : i < l.length) : Lib.occAt (l ++ t) [44, 32] i = false := by
  unfold Lib.occAt
  rw [List.drop_append_of_le_length (by omega), List.drop_eq_getElem_cons hi]
  have hd : isDig l[i] = true := List.all_eq_true.1 h _ (List.getElem_mem _)
  have hne : ¬ (44 : UInt8) = l[i] := by
    intro e; rw [← e] at hd; exact absurd hd (by decide)
  show ((44 : UInt8) == l[i] && _) = false
  rw [beq_eq_false_iff_ne.2 hne]; rfl

theorem cut_text {A T : List UInt8} (h : A.all isDig = true) : Lib.cut (A ++ [44, 32] ++ T) [44, 32] = (A, T, true) := by
  have hidx : Lib.index (A ++ [44, 32] ++ T) [44, 32] = (A.length : Int) := by
    refine Lib.index_hit (fun i hi => ?_) (by simp) ?_
    · rw [List.append_assoc]; exact no_comma h _ i hi
    · unfold Lib.occAt; rw [List.append_assoc, List.drop_left]; simp [List.isPrefixOf]
  unfold Lib.cut
  rw [hidx, if_pos (by omega), Int.toNat_natCast]
  refine Prod.ext ?_ (Prod.ext ?_ rfl)
  · rw [List.append_assoc]; exact List.take_left
  · show (A ++ [44, 32] ++ T).drop (A.length + 2) = T
    rw [show A.length + 2 = (A ++ [44, 32]).length by simp]; exact List.drop_left

theorem head_text (A T : List UInt8) : cutHead ([91] ++ A ++ [44, 32] ++ T ++ [41]) = A ++ [44, 32] ++ T ++ [41] ∧ cutOpn ([91] ++ A ++ [44, 32] ++ T ++ [41]) = true := by
  have h : Lib.hasPrefix ([91] ++ A ++ [44, 32] ++ T ++ [41]) [91] = true := by simp [Lib.hasPrefix, List.isPrefixOf]
  refine ⟨?_, h⟩
  unfold cutHead Lib.trimPrefix
  rw [if_pos h]; simp
theorem tail_text (A T : List UInt8) : cutTail ([91] ++ A ++ [44, 32] ++ T ++ [41]) = A ++ [44, 32] ++ T ∧ cutCls ([91] ++ A ++ [44, 32] ++ T ++ [41]) = true := by
  have h : Lib.hasSuffix (A ++ [44, 32] ++ T ++ [41]) [41] = true := by
    unfold Lib.hasSuffix; rw [List.isSuffixOf_iff_suffix]; exact List.suffix_append _ _
  unfold cutTail cutCls
  rw [(head_text A T).1]
  refine ⟨?_, h⟩
  unfold Lib.trimSuffix
  rw [if_pos h]
  have e : (A ++ [44, 32] ++ T ++ [41]).length - ([41] : List UInt8).length = (A ++ [44, 32] ++ T).length := by simp
  rw [e]; exact List.take_left

theorem parse_text {a b : Int} (h : vld a b = true) : parseP (textP a b) = (a, b, 0) := by
  have hv : 0 ≤ a ∧ a < b ∧ b ≤ 1099511627776 := by simpa [vld, and_assoc] using h
  obtain ⟨n, rfl⟩ := Int.eq_ofNat_of_zero_le hv.1
  obtain ⟨m, rfl⟩ := Int.eq_ofNat_of_zero_le (show 0 ≤ b by omega)
  have key : ∀ T : List UInt8, cutWhole ([91] ++ Lib.decDigits n ++ [44, 32] ++ T ++ [41]) = true ∧ cutFirst ([91] ++ Lib.decDigits n ++ [44, 32] ++ T ++ [41]) = Lib.decDigits n ∧ cutSecond ([91] ++ Lib.decDigits n ++ [44, 32] ++ T ++ [41]) = T := by
    intro T
    have hc := cut_text (T := T) (dec_all n)
    unfold cutWhole cutDvd cutFirst cutSecond
    rw [(tail_text _ T).1, hc, (head_text _ T).2, (tail_text _ T).2]
    exact ⟨rfl, rfl, rfl⟩
  unfold textP
  rw [if_pos h, itoa_nat]
  by_cases hF : (m : Int) = 1099511627776
  · rw [if_pos hF]
    obtain ⟨h1, h2, h3⟩ := key sForever
    unfold parseP
    rw [h1, h2, h3, if_neg (by decide), if_neg (by rw [dec_ok]; decide), if_pos rfl, dec_numN n (by omega)]
    unfold chk; rw [← hF, if_pos h]
  · rw [if_neg hF, itoa_nat]
    obtain ⟨h1, h2, h3⟩ := key (Lib.decDigits m)
    have hne : ¬ Lib.decDigits m = sForever := by
      intro e; have := dec_all m; rw [e] at this; exact absurd this (by decide)
    unfold parseP
    rw [h1, h2, h3, if_neg (by decide), if_neg (by rw [dec_ok]; decide), if_neg hne, if_neg (by rw [dec_ok]; decide), dec_numN n (by omega), dec_numN m (by omega), if_neg hF]
    unfold chk; rw [if_pos h]

theorem text_len {a b : Int} (h : vld a b = true) (ha : (Lib.itoa a).length ≤ 21) (hb : (Lib.itoa b).length ≤ 21) : (textP a b).length ≤ 60 := by
  unfold textP; rw [if_pos h]
  have hs : sForever.length = 7 := rfl
  split <;> simp only [List.length_append, List.length_cons, List.length_nil] <;> omega
end Go.Proofs.YthjnkekkjjcnfaaGreatDoor
