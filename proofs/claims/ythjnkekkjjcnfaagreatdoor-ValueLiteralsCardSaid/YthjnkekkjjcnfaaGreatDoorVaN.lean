/-
  Pure mathematics of numbers in literals: what digits spell, which numbers are in range, and the way back. Conditions: none.
-/
import Derived.Lib.AtoiAll
import Derived.Lib.SlTrimSet
import Derived.Test.YthjnkekkjjcnfaaGreatDoorPure
import Derived.Test.YthjnkekkjjcnfaaGreatDoorTextPure
import Derived.Test.YthjnkekkjjcnfaaGreatDoorVaP
namespace Go.Proofs.YthjnkekkjjcnfaaGreatDoor

/-- What digits spell. -/
def decA (a : Nat) (l : List UInt8) : Nat := l.foldl (fun n c => n * 10 + (c.toNat - 48)) a
def decV (l : List UInt8) : Nat := decA 0 l
theorem decA_cons (a : Nat) (c : UInt8) (l : List UInt8) : decA a (c :: l) = decA (a * 10 + (c.toNat - 48)) l := by unfold decA; rw [List.foldl_cons]
theorem decA_le (l : List UInt8) : ∀ a : Nat, a ≤ decA a l := by
  induction l with
  | nil => intro a; exact Nat.le_refl _
  | cons c l ih =>
    intro a
    rw [decA_cons]
    have := ih (a * 10 + (c.toNat - 48))
    omega
theorem decV_snoc (l : List UInt8) (c : UInt8) : decV (l ++ [c]) = decV l * 10 + (c.toNat - 48) := by
  unfold decV decA; rw [List.foldl_append]; rfl
theorem isDig_nat2 {c : UInt8} (h : isDig c = true) : 48 ≤ c.toNat ∧ c.toNat ≤ 57 := by
  unfold isDig at h; simp only [Bool.and_eq_true, decide_eq_true_eq] at h; omega
/-- The end of strconv.Atoi on digits. -/
theorem parseU (l : List UInt8) : ∀ a, l.all isDig = true → Lib.parseUint10 a l = .ok (decA a l) ∧ decA a l < 18446744073709551616 ∨ Lib.parseUint10 a l = .range ∧ 18446744073709551616 ≤ decA a l ∨ ¬ a < 18446744073709551616 := by
  induction l with
  | nil =>
    intro a _
    by_cases h : a < 18446744073709551616
    · exact .inl ⟨rfl, h⟩
    · exact .inr (.inr h)
  | cons c l ih =>
    intro a hl
    rw [List.all_cons, Bool.and_eq_true] at hl
    obtain ⟨h1, h2⟩ := isDig_nat2 hl.1
    by_cases ha : a < 18446744073709551616
    · unfold Lib.parseUint10
      rw [if_pos ⟨h1, h2⟩, decA_cons]
      have hle := decA_le l (a * 10 + (c.toNat - 48))
      by_cases h3 : 1844674407370955162 ≤ a
      · rw [if_pos h3]; exact .inr (.inl ⟨rfl, by omega⟩)
      · rw [if_neg h3]
        by_cases h4 : 18446744073709551616 ≤ a * 10 + (c.toNat - 48)
        · rw [if_pos h4]; exact .inr (.inl ⟨rfl, by omega⟩)
        · rw [if_neg h4]
          rcases ih (a * 10 + (c.toNat - 48)) hl.2 with h | h | h
          · exact .inl h
          · exact .inr (.inl h)
          · omega
    · exact .inr (.inr ha)
/-- A sign and digits. -/
def negH (s : List UInt8) : Bool := s.head? == some 45
def absL (s : List UInt8) : List UInt8 := if negH s then s.tail else s
def numG (s : List UInt8) : Bool := numOk (absL s) && !(negH s && absL s == [48])
def sgnV (s : List UInt8) : Int := if negH s then -(decV (absL s) : Int) else decV (absL s)
theorem absL_prefix (s : List UInt8) : Lib.trimPrefix s [45] = absL s := by
  unfold Lib.trimPrefix Lib.hasPrefix absL negH
  cases s with
  | nil => rfl
  | cons b t =>
    by_cases h : b = 45
    · subst h; simp [List.isPrefixOf]
    · have h2 : (45 : UInt8) ≠ b := Ne.symm h
      simp [List.isPrefixOf, h, h2]
theorem numOk_all' {A : List UInt8} (h : numOk A = true) : A.all isDig = true := by unfold numOk at h; rw [Bool.and_eq_true] at h; exact h.2
theorem numOk_bad' {A : List UInt8} (h : numOk A = true) : numBad A = false := by
  unfold numOk at h; rw [Bool.and_eq_true] at h; simpa using h.1
theorem numOk_ne' {A : List UInt8} (h : numOk A = true) : A ≠ [] := by
  intro e; subst e; cases h
/-- How Atoi ends on what is accepted as a number. -/
theorem atoi_num {s : List UInt8} (h : numG s = true) : (Lib.atoiAll s = .ok (sgnV s) ∧ -9223372036854775808 ≤ sgnV s ∧ sgnV s ≤ 9223372036854775807) ∨ (Lib.atoiAll s = .range ∧ (sgnV s < -9223372036854775808 ∨ 9223372036854775807 < sgnV s)) := by
  unfold numG at h
  rw [Bool.and_eq_true] at h
  have hd := numOk_all' h.1
  have hne := numOk_ne' h.1
  clear h
  cases s with
  | nil => exact absurd rfl hne
  | cons c r =>
    by_cases hc : c = 45
    · subst hc
      have hn : negH (45 :: r) = true := rfl
      have ha : absL (45 :: r) = r := rfl
      rw [ha] at hd hne
      unfold Lib.atoiAll sgnV
      rw [hn, ha, if_pos rfl]
      dsimp only
      have e1 : ((45 : UInt8).toNat = 43 ∨ (45 : UInt8).toNat = 45) := .inr rfl
      rw [if_pos e1]
      unfold Lib.parseMag
      rw [if_neg hne]
      have e45 : ((45 : UInt8).toNat = 45) := rfl
      unfold decV
      rcases parseU r 0 hd with ⟨h1, h2⟩ | ⟨h1, h2⟩ | h
      · rw [h1]
        dsimp only
        rw [if_neg (by simp), if_pos e45]
        by_cases h5 : 9223372036854775808 < decA 0 r
        · rw [if_pos ⟨e45, h5⟩]; exact .inr ⟨rfl, .inl (by omega)⟩
        · rw [if_neg (fun h => h5 h.2)]; exact .inl ⟨rfl, by omega, by omega⟩
      · rw [h1]; exact .inr ⟨rfl, .inl (by omega)⟩
      · omega
    · have hn : negH (c :: r) = false := by simp [negH, hc]
      have ha : absL (c :: r) = c :: r := by unfold absL; rw [hn]; rfl
      rw [ha] at hd hne
      unfold Lib.atoiAll sgnV
      rw [hn, ha]
      dsimp only
      have hd0 := hd
      rw [List.all_cons, Bool.and_eq_true] at hd0
      obtain ⟨k1, k2⟩ := isDig_nat2 hd0.1
      have e1 : ¬ (c.toNat = 43 ∨ c.toNat = 45) := by omega
      have e2 : ¬ c.toNat = 45 := by omega
      rw [if_neg e1]
      unfold Lib.parseMag
      rw [if_neg hne]
      unfold decV
      rcases parseU (c :: r) 0 hd with ⟨h1, h2⟩ | ⟨h1, h2⟩ | h
      · rw [h1]
        dsimp only
        by_cases h5 : 9223372036854775808 ≤ decA 0 (c :: r)
        · rw [if_pos ⟨e2, h5⟩]; exact .inr ⟨rfl, .inr (by simp <;> omega)⟩
        · rw [if_neg (fun h => h5 h.2), if_neg (fun h => e2 h.1), if_neg e2]
          exact .inl ⟨rfl, by simp <;> omega, by simp <;> omega⟩
      · rw [h1]; exact .inr ⟨rfl, .inr (by simp <;> omega)⟩
      · omega
/-! ### the reference's number -/
def satV (l : List UInt8) : Nat := min (decV l) 1125899906842625
theorem satV_snoc (l : List UInt8) (c : UInt8) : satV (l ++ [c]) = min (satV l * 10 + (c.toNat - 48)) 1125899906842625 := by
  unfold satV
  rw [decV_snoc]
  omega
/-! ### the way back -/
theorem decV_dec (n : Nat) : decV (Lib.decDigits n) = n := by
  induction n using Nat.strongRecOn with
  | _ n ih =>
    by_cases h10 : n < 10
    · have e := dig_nat n h10
      rw [dec_small n h10]
      show 0 * 10 + ((UInt8.ofNat (48 + n)).toNat - 48) = n
      omega
    · have e := dig_nat (n % 10) (by omega)
      rw [dec_big n h10, decV_snoc, ih (n / 10) (by omega)]
      omega
theorem decV_back : ∀ (n : Nat) (A : List UInt8), A.length = n → numOk A = true → Lib.decDigits (decV A) = A
  | 0, A, hn, hA => absurd (List.eq_nil_of_length_eq_zero hn) (numOk_ne' hA)
  | n + 1, A, hn, hA => by
    obtain ⟨A', c, rfl⟩ : ∃ A' c, A = A' ++ [c] := ⟨A.dropLast, A.getLast (numOk_ne' hA), (List.dropLast_concat_getLast _).symm⟩
    have hall := numOk_all' hA
    rw [List.all_append, Bool.and_eq_true] at hall
    obtain ⟨ha', hc⟩ := hall
    have hc' : isDig c = true := by simpa using hc
    have hcd := isDig_nat2 hc'
    rw [decV_snoc]
    have hcc : UInt8.ofNat (48 + (c.toNat - 48)) = c := by
      rw [show 48 + (c.toNat - 48) = c.toNat by omega]; exact UInt8.ofNat_toNat
    by_cases hne : A' = []
    · subst hne
      have e : decV [] * 10 + (c.toNat - 48) = c.toNat - 48 := by
        show 0 * 10 + (c.toNat - 48) = _; omega
      rw [e, dec_small _ (by omega), hcc]; rfl
    · have hbad : numBad A' = false ∧ A' ≠ [48] := by
        have h0 := numOk_bad' hA
        obtain ⟨d, D, rfl⟩ : ∃ d D, A' = d :: D := by cases A' with
          | nil => exact absurd rfl hne
          | cons d D => exact ⟨d, D, rfl⟩
        unfold numBad at h0 ⊢
        simp only [List.cons_append, List.isEmpty_cons, Bool.false_or, List.head?_cons] at h0 ⊢
        cases hd : (some d == some (48 : UInt8))
        · refine ⟨rfl, fun e => ?_⟩
          injection e with e1 _; subst e1; simp at hd
        · rw [hd] at h0
          have : d = 48 := by simpa using hd
          subst this
          simp at h0
      have hA' : numOk A' = true := numOk_good hbad.1 ha'
      have ih := decV_back n A' (by simp at hn; omega) hA'
      have hpos : 1 ≤ decV A' := by
        rcases Nat.lt_or_ge (decV A') 1 with h | h
        · exfalso
          have h0 : decV A' = 0 := by omega
          rw [h0] at ih
          exact hbad.2 (by rw [← ih]; exact dec_small 0 (by omega))
        · exact h
      have e1 : (decV A' * 10 + (c.toNat - 48)) / 10 = decV A' := by omega
      have e2 : (decV A' * 10 + (c.toNat - 48)) % 10 = c.toNat - 48 := by omega
      rw [dec_big _ (by omega), e1, e2, ih, hcc]
/-- What is accepted is the text of its number. -/
theorem itoa_num {s : List UInt8} (h : numG s = true) : Lib.itoa (sgnV s) = s := by
  unfold numG at h
  rw [Bool.and_eq_true] at h
  have hb := decV_back _ _ rfl h.1
  have h2 := h.2
  unfold sgnV absL at *
  cases hn : negH s
  · rw [hn] at hb
    simp only [Bool.false_eq_true, if_false] at hb ⊢
    rw [itoa_nat, hb]
  · rw [hn] at hb h2
    simp only [if_true, Bool.true_and] at hb h2 ⊢
    have hs : s = 45 :: s.tail := by
      unfold negH at hn
      cases s with
      | nil => cases hn
      | cons b t => simp at hn; subst hn; rfl
    have hpos : 1 ≤ decV s.tail := by
      rcases Nat.lt_or_ge (decV s.tail) 1 with h | h
      · exfalso
        have h0 : decV s.tail = 0 := by omega
        rw [h0] at hb
        have e : s.tail = [48] := by rw [← hb]; exact dec_small 0 (by omega)
        rw [e] at h2
        simp at h2
      · exact h
    unfold Lib.itoa
    rw [if_pos (by omega), show (-(decV s.tail : Int)).natAbs = decV s.tail by omega, hb]
    exact hs.symm
theorem num_itoa (n : Int) : numG (Lib.itoa n) = true ∧ sgnV (Lib.itoa n) = n := by
  unfold Lib.itoa
  by_cases h : n < 0
  · rw [if_pos h]
    have hn : negH (45 :: Lib.decDigits n.natAbs) = true := rfl
    have ha : absL (45 :: Lib.decDigits n.natAbs) = Lib.decDigits n.natAbs := rfl
    refine ⟨?_, ?_⟩
    · unfold numG
      rw [hn, ha, dec_ok]
      obtain ⟨c, l, e, hc⟩ := dec_head n.natAbs (by omega)
      rw [e]
      simp [hc]
    · unfold sgnV
      rw [hn, ha, if_pos rfl, decV_dec]
      omega
  · rw [if_neg h]
    have hn : negH (Lib.decDigits n.toNat) = false := by
      have := dec_all n.toNat
      unfold negH
      cases e : Lib.decDigits n.toNat with
      | nil => rfl
      | cons c l =>
        rw [e, List.all_cons, Bool.and_eq_true] at this
        have := isDig_nat2 this.1
        have hc : c ≠ 45 := by intro h; subst h; exact absurd this.1 (by decide)
        simp [hc]
    have ha : absL (Lib.decDigits n.toNat) = Lib.decDigits n.toNat := by unfold absL; rw [hn]; rfl
    refine ⟨?_, ?_⟩
    · unfold numG
      rw [hn, ha, dec_ok]
      rfl
    · unfold sgnV
      rw [hn, ha, decV_dec]
      simp; omega
/-! ### the program's test -/
def digs : List UInt8 := [48, 49, 50, 51, 52, 53, 54, 55, 56, 57]
theorem digs_mem (c : UInt8) : digs.contains c = isDig c := by
  have h : ∀ i : Fin 256, digs.contains (UInt8.ofNat i.val) = isDig (UInt8.ofNat i.val) := by decide +kernel
  have := h ⟨c.toNat, UInt8.toNat_lt c⟩
  simpa using this
theorem trimR_nil (l : List UInt8) : Lib.trimRightS l digs = [] ↔ l.all isDig = true := by
  unfold Lib.trimRightS
  rw [List.reverse_eq_nil_iff]
  have e : (fun c => digs.contains c) = isDig := funext digs_mem
  rw [show (List.dropWhile (fun x => digs.contains x) l.reverse) = List.dropWhile isDig l.reverse by rw [← e]]
  rw [← List.all_reverse]
  generalize l.reverse = m
  induction m with
  | nil => simp
  | cons b m ih =>
    rw [List.dropWhile_cons, List.all_cons]
    cases h : isDig b
    · simp
    · simpa using ih
theorem trimS_nil (l : List UInt8) : (Lib.trimS l digs == []) = l.all isDig := by
  have e : (fun c => digs.contains c) = isDig := funext digs_mem
  rw [Bool.eq_iff_iff, beq_iff_eq, ← trimR_nil]
  constructor
  · intro h
    unfold Lib.trimS Lib.trimLeftS at h
    rw [show (List.dropWhile (fun x => digs.contains x) (Lib.trimRightS l digs)) = List.dropWhile isDig (Lib.trimRightS l digs) by rw [← e]] at h
    generalize hm : Lib.trimRightS l digs = m at *
    cases m with
    | nil => rfl
    | cons b t =>
      exfalso
      have hall : (b :: t).all isDig = true := by
        clear hm
        generalize (b :: t) = m at h
        induction m with
        | nil => rfl
        | cons x m ih =>
          rw [List.dropWhile_cons] at h
          cases hx : isDig x
          · rw [hx] at h; cases h
          · rw [hx] at h
            rw [List.all_cons, hx]; exact ih h
      -- the last byte of what TrimRight leaves is no digit
      have hne : (b :: t) ≠ [] := by simp
      unfold Lib.trimRightS at hm
      rw [show (List.dropWhile (fun x => digs.contains x) l.reverse) = List.dropWhile isDig l.reverse by rw [← e]] at hm
      cases hd : List.dropWhile isDig l.reverse with
      | nil => rw [hd] at hm; cases hm
      | cons x r =>
        have hx : isDig x = false := by
          have := List.head?_dropWhile_not isDig l.reverse
          rw [hd] at this
          simpa using this
        rw [hd, List.reverse_cons] at hm
        rw [← hm, List.all_append, List.all_cons, hx] at hall
        simp at hall
  · intro h
    unfold Lib.trimS
    rw [h]
    rfl
theorem numG_prog (s : List UInt8) : numG s = if Lib.hasPrefix (absL s) [48] then s == [48] else (!(absL s).isEmpty && (Lib.trimS (absL s) digs == [])) := by
  rw [trimS_nil]
  unfold numG Lib.hasPrefix
  cases hp : ([48] : List UInt8).isPrefixOf (absL s)
  · simp only [Bool.false_eq_true, if_false]
    have h1 : numBad (absL s) = (absL s).isEmpty := by
      unfold numBad
      cases h : absL s with
      | nil => rfl
      | cons b t =>
        rw [h] at hp
        have : b ≠ 48 := by intro e; subst e; simp [List.isPrefixOf] at hp
        simp [this]
    have h2 : (absL s == [48]) = false := by
      rw [beq_eq_false_iff_ne]; intro e; rw [e] at hp; cases hp
    unfold numOk
    rw [h1, h2]
    simp
  · rw [if_pos rfl]
    obtain ⟨t, ht⟩ : ∃ t, absL s = 48 :: t := by
      cases h : absL s with
      | nil => rw [h] at hp; cases hp
      | cons b t =>
        rw [h] at hp
        have : 48 = b := by simpa [List.isPrefixOf] using hp
        exact ⟨t, by rw [this]⟩
    rw [ht]
    cases hn : negH s
    · have e : s = 48 :: t := by rw [← ht]; unfold absL; rw [hn]; rfl
      rw [e]
      cases t with
      | nil => rfl
      | cons b t => simp [numOk, numBad]
    · have hs : s ≠ [48] := by intro e; rw [e] at hn; cases hn
      have hs2 : (s == [48]) = false := by rw [beq_eq_false_iff_ne]; exact hs
      rw [hs2]
      cases t with
      | nil => rfl
      | cons b t => simp [numOk, numBad]
end Go.Proofs.YthjnkekkjjcnfaaGreatDoor
