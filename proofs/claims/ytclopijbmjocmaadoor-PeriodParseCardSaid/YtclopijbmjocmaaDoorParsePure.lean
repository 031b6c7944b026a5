/-
  Plain facts on reading a period: the program's way and the definition's way give the same. Conditions: none.
-/
import Derived.Test.YtclopijbmjocmaaDoorTextPure
namespace Go.Proofs.YtclopijbmjocmaaDoor

/-- What digits reads at the beginning of a rest: the number, and how many bytes; none if there is no number. -/
def runD (r : List UInt8) : List UInt8 := r.takeWhile isDig
def badRun (r : List UInt8) : Bool := (runD r).isEmpty || (r.head? == some 48 && decide (1 < (runD r).length))
def digN (l : List UInt8) (i : Nat) : Int := if badRun (l.drop i) then 0 else numVal (runD (l.drop i))
def digE (l : List UInt8) (i : Nat) : Int := if badRun (l.drop i) then -1 else i + (runD (l.drop i)).length

def valAB (A B : List UInt8) : Int × Int × Int :=
  if B = sForever then chk (numN A) 1099511627776 else if numN B = 1099511627776 then (0, 0, 6) else chk (numN A) (numN B)
def FormP (l A B : List UInt8) : Prop := l = [91] ++ A ++ [44, 32] ++ B ++ [41] ∧ numOk A = true ∧ (B = sForever ∨ numOk B = true)

def parseR (l : List UInt8) : Int × Int × Int :=
  if l.head? = some 91 then
    if digE l 1 < 0 then (0, 0, 1)
    else if ((l.drop (digE l 1).toNat).take 2 == [44, 32]) = false then (0, 0, 1)
    else if (l.drop ((digE l 1).toNat + 2) == sForever ++ [41]) = true then (if 1099511627776 ≤ digN l 1 then (0, 0, 6) else (digN l 1, 1099511627776, 0))
    else if digE l ((digE l 1).toNat + 2) < 0 then (0, 0, 1)
    else if (l.drop (digE l ((digE l 1).toNat + 2)).toNat == [41]) = false then (0, 0, 1)
    else if digN l ((digE l 1).toNat + 2) ≤ digN l 1 then (0, 0, 6) else if 1099511627776 ≤ digN l ((digE l 1).toNat + 2) then (0, 0, 6) else (digN l 1, digN l ((digE l 1).toNat + 2), 0)
  else (0, 0, 1)

theorem numOk_all {A : List UInt8} (h : numOk A = true) : A.all isDig = true := by unfold numOk at h; rw [Bool.and_eq_true] at h; exact h.2
theorem numOk_notbad {A : List UInt8} (h : numOk A = true) : numBad A = false := by unfold numOk at h; rw [Bool.and_eq_true] at h; simpa using h.1
theorem numOk_ne {A : List UInt8} (h : numOk A = true) : A ≠ [] := by
  intro e; subst e; exact absurd h (by decide)

theorem chk_err (a b : Int) : (chk a b).2.2 ≠ 1 := by unfold chk; split <;> simp
theorem val_err (A B : List UInt8) : valAB A B ≠ (0, 0, 1) := by
  intro h
  have h2 : (valAB A B).2.2 = 1 := by rw [h]
  unfold valAB at h2
  split at h2
  · exact chk_err _ _ h2
  · split at h2
    · exact absurd h2 (by decide)
    · exact chk_err _ _ h2

/-! The program's way. -/
theorem key_cut {A B : List UInt8} (hA : A.all isDig = true) : cutWhole ([91] ++ A ++ [44, 32] ++ B ++ [41]) = true ∧ cutFirst ([91] ++ A ++ [44, 32] ++ B ++ [41]) = A ∧ cutSecond ([91] ++ A ++ [44, 32] ++ B ++ [41]) = B := by
  have hc := cut_text (T := B) hA
  unfold cutWhole cutDvd cutFirst cutSecond
  rw [(tail_text _ B).1, hc, (head_text _ B).2, (tail_text _ B).2]
  exact ⟨rfl, rfl, rfl⟩
theorem P1 {l A B : List UInt8} (h : FormP l A B) : parseP l = valAB A B := by
  obtain ⟨rfl, hA, hB⟩ := h
  obtain ⟨h1, h2, h3⟩ := key_cut (B := B) (numOk_all hA)
  unfold parseP valAB
  rw [h1, h2, h3, if_neg (by decide), if_neg (by rw [hA]; decide)]
  split
  · rfl
  · rename_i hF
    rcases hB with hB | hB
    · exact absurd hB hF
    · rw [if_neg (by rw [hB]; decide)]
theorem index_at {sub : List UInt8} (hne : sub ≠ []) : ∀ (s : List UInt8) (i : Nat), Lib.index s sub = i → Lib.occAt s sub i = true
  | [], i, h => by
    have he : sub.isEmpty = false := by cases sub with
      | nil => exact absurd rfl hne
      | cons => rfl
    simp only [Lib.index, he] at h
    simp at h
  | b :: l, i, h => by
    simp only [Lib.index] at h
    split at h
    · rename_i hp
      obtain rfl : i = 0 := by omega
      exact hp
    · split at h
      · omega
      · rename_i h1 h2
        match i, h with
        | 0, h =>
          have hneg : -1 ≤ Lib.index l sub := Lib.index_ge _ _
          have : Lib.index l sub ≠ -1 := by simpa using h2
          omega
        | j + 1, h => exact index_at hne l j (by omega)
theorem cut_inv {u x y : List UInt8} (h : Lib.cut u [44, 32] = (x, y, true)) : u = x ++ [44, 32] ++ y := by
  unfold Lib.cut at h
  split at h
  · rename_i h0
    obtain ⟨i, hi⟩ := Int.eq_ofNat_of_zero_le h0
    rw [hi] at h
    simp only [Int.toNat_natCast, Prod.mk.injEq] at h
    obtain ⟨rfl, rfl, _⟩ := h
    have hocc : Lib.occAt u [44, 32] i = true := index_at (by simp) u i hi
    unfold Lib.occAt at hocc
    rw [List.isPrefixOf_iff_prefix] at hocc
    obtain ⟨t, ht⟩ := hocc
    have e : u.drop (i + 2) = t := by
      rw [← List.drop_drop, ← ht]; rfl
    show u = u.take i ++ [44, 32] ++ u.drop (i + 2)
    rw [e, List.append_assoc, ht, List.take_append_drop]
  · simp at h
theorem P2 {l : List UInt8} (h : parseP l ≠ (0, 0, 1)) : ∃ A B, FormP l A B := by
  unfold parseP at h
  split at h
  · exact absurd rfl h
  · rename_i hw
    split at h
    · exact absurd rfl h
    · rename_i hA
      have hw' : cutWhole l = true := by simpa using hw
      unfold cutWhole at hw'
      simp only [Bool.and_eq_true] at hw'
      obtain ⟨⟨ho, hc⟩, hd⟩ := hw'
      have e1 : l = [91] ++ cutHead l := by
        unfold cutOpn Lib.hasPrefix at ho
        obtain ⟨t, ht⟩ := List.isPrefixOf_iff_prefix.1 ho
        unfold cutHead Lib.trimPrefix Lib.hasPrefix
        rw [if_pos ho, ← ht]; rfl
      have e2 : cutHead l = cutTail l ++ [41] := by
        unfold cutCls Lib.hasSuffix at hc
        obtain ⟨t, ht⟩ := List.isSuffixOf_iff_suffix.1 hc
        unfold cutTail Lib.trimSuffix Lib.hasSuffix
        rw [if_pos hc, ← ht]
        congr 1
        rw [List.length_append]
        show t = (t ++ [41]).take (t.length + 1 - 1)
        rw [Nat.add_sub_cancel]; exact List.take_left.symm
      have e3 : cutTail l = cutFirst l ++ [44, 32] ++ cutSecond l := by
        apply cut_inv
        unfold cutDvd at hd
        unfold cutFirst cutSecond
        rw [← hd]
      refine ⟨cutFirst l, cutSecond l, ?_, by simpa using hA, ?_⟩
      · conv => lhs; rw [e1, e2, e3]
        simp
      · split at h
        · rename_i hF; exact .inl hF
        · split at h
          · exact absurd rfl h
          · rename_i hB; exact .inr (by simpa using hB)

/-! The definition's way. -/
theorem run_app : ∀ (A t : List UInt8), A.all isDig = true → (∀ c, t.head? = some c → isDig c = false) → runD (A ++ t) = A
  | [], [], _, _ => rfl
  | [], c :: t, _, ht => by
    have := ht c rfl
    simp [runD, this]
  | a :: A, t, hA, ht => by
    rw [List.all_cons, Bool.and_eq_true] at hA
    have := run_app A t hA.2 ht
    unfold runD at this ⊢
    rw [List.cons_append, List.takeWhile_cons, if_pos hA.1, this]
theorem run_split (r : List UInt8) : ∃ t, r = runD r ++ t ∧ (runD r).all isDig = true := by
  refine ⟨r.dropWhile isDig, (List.takeWhile_append_dropWhile).symm, ?_⟩
  unfold runD
  induction r with
  | nil => rfl
  | cons a r ih =>
    rw [List.takeWhile_cons]
    split
    · rename_i h; rw [List.all_cons, h, ih]; rfl
    · rfl
theorem bad_run (r : List UInt8) : badRun r = numBad (runD r) := by
  obtain ⟨t, ht, _⟩ := run_split r
  unfold badRun numBad
  cases h : runD r with
  | nil => rfl
  | cons c A =>
    have hh : r.head? = some c := by rw [ht, h]; rfl
    rw [hh]
    simp only [List.isEmpty_cons, Bool.false_or, List.length_cons, List.head?_cons]
    cases hc : (some c == some (48 : UInt8))
    · rfl
    · have hc' : c = 48 := by simpa using hc
      subst hc'
      cases A with
      | nil => rfl
      | cons d A => simp
theorem numOk_run {r : List UInt8} (h : badRun r = false) : numOk (runD r) = true := by
  obtain ⟨t, _, ha⟩ := run_split r
  exact numOk_good (by rw [← bad_run]; exact h) ha
theorem numN_ok {A : List UInt8} (h : numOk A = true) : numN A = numVal A := by unfold numN; rw [if_pos h]

theorem dig_at {l A t : List UInt8} {i : Nat} (h : l.drop i = A ++ t) (hA : numOk A = true) (ht : ∀ c, t.head? = some c → isDig c = false) : digN l i = numN A ∧ digE l i = i + A.length := by
  have hr := run_app A t (numOk_all hA) ht
  have hb : badRun (l.drop i) = false := by rw [bad_run, h, hr]; exact numOk_notbad hA
  unfold digN digE
  rw [hb, h, hr, numN_ok hA]
  exact ⟨rfl, rfl⟩

theorem R1 {l A B : List UInt8} (h : FormP l A B) : parseR l = valAB A B := by
  obtain ⟨hl, hA, hB⟩ := h
  have d1 : l.drop 1 = A ++ ([44, 32] ++ (B ++ [41])) := by rw [hl]; simp
  obtain ⟨n1, e1⟩ := dig_at d1 hA (fun c hc => by simp at hc; subst hc; decide)
  have t1 : (digE l 1).toNat = 1 + A.length := by rw [e1]; omega
  have d2 : l.drop (1 + A.length) = [44, 32] ++ (B ++ [41]) := by
    rw [← List.drop_drop, d1]; exact List.drop_left
  have d3 : l.drop (1 + A.length + 2) = B ++ [41] := by
    rw [← List.drop_drop, d2]; rfl
  have hh : l.head? = some 91 := by rw [hl]; rfl
  have hnb := numN_bd A
  unfold parseR valAB
  have tk : (([44, 32] ++ (B ++ [41]) : List UInt8).take 2 == [44, 32]) = true := rfl
  rw [if_pos hh, if_neg (by rw [e1]; omega), t1, d2, if_neg (by rw [tk]; decide), d3]
  by_cases hF : B = sForever
  · rw [if_pos hF, if_pos (by rw [hF]; decide), n1]
    unfold chk
    by_cases hlt : 1099511627776 ≤ numN A
    · rw [if_pos hlt, if_neg]; simp [vld]; omega
    · rw [if_neg hlt, if_pos]; simp [vld]; omega
  · rcases hB with hB | hB
    · exact absurd hB hF
    · have hne : (B ++ [41] == sForever ++ [41]) = false := by
        rw [beq_eq_false_iff_ne]; intro e
        exact hF (List.append_cancel_right e)
      obtain ⟨n2, e2⟩ := dig_at d3 hB (fun c hc => by simp at hc; subst hc; decide)
      have t2 : (digE l (1 + A.length + 2)).toNat = 1 + A.length + 2 + B.length := by rw [e2]; omega
      have d4 : l.drop (1 + A.length + 2 + B.length) = [41] := by
        rw [← List.drop_drop, d3]; exact List.drop_left
      have hnb2 := numN_bd B
      rw [if_neg hF, if_neg (by rw [hne]; decide), if_neg (by rw [e2]; omega), t2, d4, if_neg (by decide), n1, n2]
      by_cases hF2 : numN B = 1099511627776
      · rw [if_pos hF2, hF2]
        split
        · rfl
        · rw [if_pos (by omega)]
      · rw [if_neg hF2]
        unfold chk
        by_cases hlt : numN B ≤ numN A
        · rw [if_pos hlt, if_neg]; simp [vld]; omega
        · rw [if_neg hlt, if_neg (by omega), if_pos]; simp [vld]; omega

theorem drop_run {A t r : List UInt8} (h : t = A ++ r) : t.drop A.length = r := by rw [h]; exact List.drop_left
theorem R2 {l : List UInt8} (h : parseR l ≠ (0, 0, 1)) : ∃ A B, FormP l A B := by
  unfold parseR at h
  split at h
  · rename_i hh
    obtain ⟨t, rfl⟩ : ∃ t, l = 91 :: t := by
      cases l with
      | nil => cases hh
      | cons c t => simp at hh; subst hh; exact ⟨t, rfl⟩
    split at h
    · exact absurd rfl h
    · rename_i hE
      have hb : badRun t = false := by
        cases hb : badRun t
        · rfl
        · exfalso; apply hE; unfold digE; rw [List.drop_one, List.tail_cons, hb, if_pos rfl]; decide
      have hA := numOk_run hb
      have hE1 : (digE (91 :: t) 1).toNat = 1 + (runD t).length := by
        unfold digE; rw [List.drop_one, List.tail_cons, hb]; simp; omega
      obtain ⟨r, hr, _⟩ := run_split t
      have d1 : (91 :: t).drop (1 + (runD t).length) = r := by
        rw [← List.drop_drop, List.drop_one, List.tail_cons]
        exact drop_run hr
      rw [hE1] at h
      split at h
      · exact absurd rfl h
      · rename_i hc
        have hc' : r.take 2 = [44, 32] := by rw [d1] at hc; simpa using hc
        have d2 : r = [44, 32] ++ r.drop 2 := by rw [← hc']; exact (List.take_append_drop 2 r).symm
        have d3 : (91 :: t).drop (1 + (runD t).length + 2) = r.drop 2 := by rw [← List.drop_drop, d1]
        rw [d3] at h
        split at h
        · rename_i hF
          have hF' : r.drop 2 = sForever ++ [41] := by simpa using hF
          refine ⟨runD t, sForever, ?_, hA, .inl rfl⟩
          conv => lhs; rw [hr, d2, hF']
          simp
        · split at h
          · exact absurd rfl h
          · rename_i hE2
            have hb2 : badRun (r.drop 2) = false := by
              cases hb2 : badRun (r.drop 2)
              · rfl
              · exfalso; apply hE2; unfold digE; rw [d3, hb2, if_pos rfl]; decide
            have hB := numOk_run hb2
            have hE3 : (digE (91 :: t) (1 + (runD t).length + 2)).toNat = 1 + (runD t).length + 2 + (runD (r.drop 2)).length := by
              unfold digE; rw [d3, hb2]; simp; omega
            obtain ⟨r2, hr2, _⟩ := run_split (r.drop 2)
            have d4 : (91 :: t).drop (1 + (runD t).length + 2 + (runD (r.drop 2)).length) = r2 := by
              rw [← List.drop_drop, d3]
              exact drop_run hr2
            rw [hE3, d4] at h
            split at h
            · exact absurd rfl h
            · rename_i hq
              have hq' : r2 = [41] := by simpa using hq
              refine ⟨runD t, runD (r.drop 2), ?_, hA, .inr hB⟩
              conv => lhs; rw [hr, d2, hr2, hq']
              simp
  · exact absurd rfl h

theorem parse_same (l : List UInt8) : parseP l = parseR l := by
  by_cases h1 : parseP l = (0, 0, 1)
  · by_cases h2 : parseR l = (0, 0, 1)
    · rw [h1, h2]
    · obtain ⟨A, B, h⟩ := R2 h2
      rw [P1 h, R1 h]
  · obtain ⟨A, B, h⟩ := P2 h1
    rw [P1 h, R1 h]

/-! What is parsed has that text. -/
theorem num_back : ∀ (n : Nat) (A : List UInt8), A.length = n → numOk A = true → numVal A < 1099511627776 → Lib.decDigits (numVal A).toNat = A
  | 0, A, hn, hA, _ => absurd (List.eq_nil_of_length_eq_zero hn) (numOk_ne hA)
  | n + 1, A, hn, hA, hlt => by
    obtain ⟨A', c, rfl⟩ : ∃ A' c, A = A' ++ [c] := ⟨A.dropLast, A.getLast (numOk_ne hA), (List.dropLast_concat_getLast _).symm⟩
    have hall := numOk_all hA
    rw [List.all_append, Bool.and_eq_true] at hall
    obtain ⟨ha', hc⟩ := hall
    have hc' : isDig c = true := by simpa using hc
    have hcd : 48 ≤ (c.toNat : Int) ∧ (c.toNat : Int) ≤ 57 := by simpa [isDig] using hc'
    have hb := numVal_bd ha'
    rw [numVal_snoc] at hlt ⊢
    have hv : min (10 * numVal A' + ((c.toNat : Int) - 48)) 1099511627776 = 10 * numVal A' + ((c.toNat : Int) - 48) := by omega
    rw [hv] at hlt ⊢
    have hcc : UInt8.ofNat (48 + (c.toNat - 48)) = c := by
      rw [show 48 + (c.toNat - 48) = c.toNat by omega]; exact UInt8.ofNat_toNat
    by_cases hne : A' = []
    · subst hne
      have e : (10 * numVal [] + ((c.toNat : Int) - 48)).toNat = c.toNat - 48 := by
        show (10 * 0 + ((c.toNat : Int) - 48)).toNat = _; omega
      rw [e, dec_small _ (by omega), hcc]; rfl
    · have hbad : numBad A' = false ∧ A' ≠ [48] := by
        have h0 := numOk_notbad hA
        obtain ⟨d, D, rfl⟩ : ∃ d D, A' = d :: D := by cases A' with
          | nil => exact absurd rfl hne
          | cons d D => exact ⟨d, D, rfl⟩
        unfold numBad at h0 ⊢
        simp only [List.cons_append, List.isEmpty_cons, Bool.false_or, List.head?_cons] at h0 ⊢
        cases hd : (some d == some (48 : UInt8))
        · refine ⟨rfl, fun e => ?_⟩
          injection e with e1 _; subst e1; simp at hd
        · rw [hd] at h0
          have : d = 48 := by simpa using hd
          subst this
          simp at h0
      have hA' : numOk A' = true := numOk_good hbad.1 ha'
      have ih := num_back n A' (by simp at hn; omega) hA' (by omega)
      have hpos : 1 ≤ numVal A' := by
        rcases Int.lt_or_le (numVal A') 1 with h | h
        · exfalso
          have h0 : numVal A' = 0 := by omega
          rw [h0] at ih
          exact hbad.2 (by rw [← ih]; exact dec_small 0 (by omega))
        · exact h
      have e1 : (10 * numVal A' + ((c.toNat : Int) - 48)).toNat / 10 = (numVal A').toNat := by omega
      have e2 : (10 * numVal A' + ((c.toNat : Int) - 48)).toNat % 10 = c.toNat - 48 := by omega
      rw [dec_big _ (by omega), e1, e2, ih, hcc]

theorem itoa_back {A : List UInt8} (h : numOk A = true) (hlt : numN A < 1099511627776) : Lib.itoa (numN A) = A := by
  rw [numN_ok h] at hlt ⊢
  have hb := numVal_bd (numOk_all h)
  obtain ⟨n, hn⟩ := Int.eq_ofNat_of_zero_le hb.1
  have hk := num_back A.length A rfl h hlt
  rw [hn] at hk ⊢
  rw [itoa_nat]
  simpa using hk
theorem chk_ok {a b x y : Int} (h : chk a b = (x, y, 0)) : x = a ∧ y = b ∧ vld a b = true := by
  unfold chk at h
  split at h
  · rename_i hv; injection h with h1 h2; injection h2 with h2 _; exact ⟨h1.symm, h2.symm, hv⟩
  · injection h with _ h2; injection h2 with _ h3; exact absurd h3 (by decide)
theorem vld_le' {a b : Int} (h : vld a b = true) : 0 ≤ a ∧ a < b ∧ b ≤ 1099511627776 := by simpa [vld, and_assoc] using h
theorem text_of_parse {l : List UInt8} {a b : Int} (h : parseP l = (a, b, 0)) : textP a b = l ∧ vld a b = true := by
  obtain ⟨A, B, hf⟩ := P2 (l := l) (by rw [h]; intro e; injection e with _ e; injection e with _ e; exact absurd e (by decide))
  rw [P1 hf] at h
  obtain ⟨rfl, hA, hB⟩ := hf
  unfold valAB at h
  by_cases hF : B = sForever
  · rw [if_pos hF] at h
    obtain ⟨rfl, rfl, hv⟩ := chk_ok h
    refine ⟨?_, hv⟩
    have hv' := vld_le' hv
    unfold textP
    rw [if_pos hv, if_pos rfl, itoa_back hA (by omega), hF]
  · rw [if_neg hF] at h
    rcases hB with hB | hB
    · exact absurd hB hF
    · by_cases hF2 : numN B = 1099511627776
      · rw [if_pos hF2] at h; injection h with _ h; injection h with _ h; exact absurd h (by decide)
      · rw [if_neg hF2] at h
        obtain ⟨rfl, rfl, hv⟩ := chk_ok h
        refine ⟨?_, hv⟩
        have hv' := vld_le' hv
        unfold textP
        rw [if_pos hv, if_neg hF2, itoa_back hA (by omega), itoa_back hB (by omega)]
end Go.Proofs.YtclopijbmjocmaaDoor
