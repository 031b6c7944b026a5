import Derived.Lib.ItoaNum
import Derived.Lib.IndexMore
import Derived.Lib.Strings
import Derived.Laws.Concat
import Derived.Test.YtpiadcfejbnonaaMA
import Derived.Lib.IndexLaws
import Derived.Lib.CountLaws
import Derived.Lib.Replace
import Derived.Lib.DecodeN
import Derived.Shelf.GgClosure.StringsIndexFunc
import Derived.Test.YtpiadcfejbnonaaProg
import Derived.WalkKit
import Derived.WalkSpells
import Derived.WalkLawsBesides
import Derived.Deep.QuietTactic
import Derived.BigQuiet
import Derived.Handy
import Derived.Lib.Hide
import Derived.Test.YtpiadcfejbnonaaMB
/-
  The text of a period, as a function on bytes. Conditions: none.
-/
namespace Go.Proofs.Ytpiadcfejbnonaa.Va
set_option linter.unusedVariables false
set_option linter.unusedSimpArgs false
set_option linter.unusedVariables false
set_option linter.unusedSimpArgs false
set_option linter.unusedVariables false
set_option linter.unusedSimpArgs false
set_option maxRecDepth 100000
def sForever : List UInt8 := [102, 111, 114, 101, 118, 101, 114]
def textP (a b : Int) : List UInt8 := if vld a b then [91] ++ Lib.itoa a ++ [44, 32] ++ (if b = 1099511627776 then sForever else Lib.itoa b) ++ [41] else []

/-- The value of decimal digits, at most the end of time. -/
def numVal (l : List UInt8) : Int := l.foldl (fun n c => min (10 * n + ((c.toNat : Int) - 48)) 1099511627776) 0
def isDig (c : UInt8) : Bool := decide (48 ≤ (c.toNat : Int)) && decide ((c.toNat : Int) ≤ 57)
def numBad (l : List UInt8) : Bool := l.isEmpty || (l.head? == some 48 && l != [48])
/-- A number without leading zeros. -/
def numOk (l : List UInt8) : Bool := !numBad l && l.all isDig

theorem numVal_bd_aux : ∀ (l : List UInt8) (n : Int), l.all isDig = true → 0 ≤ n → n ≤ 1099511627776 → 0 ≤ l.foldl (fun n c => min (10 * n + ((c.toNat : Int) - 48)) 1099511627776) n ∧ l.foldl (fun n c => min (10 * n + ((c.toNat : Int) - 48)) 1099511627776) n ≤ 1099511627776
  | [], n, _, h0, h1 => ⟨h0, h1⟩
  | c :: l, n, hl, h0, h1 => by
    simp only [List.all_cons, Bool.and_eq_true, isDig, decide_eq_true_eq] at hl
    have hl' : l.all isDig = true := by simpa [isDig, List.all_eq_true] using hl.2
    have h2 := hl.1
    exact numVal_bd_aux l (min (10 * n + ((c.toNat : Int) - 48)) 1099511627776) hl' (by omega) (by omega)
theorem numVal_bd {l : List UInt8} (h : l.all isDig = true) : 0 ≤ numVal l ∧ numVal l ≤ 1099511627776 := numVal_bd_aux l 0 h (by omega) (by omega)
theorem numVal_snoc (l : List UInt8) (c : UInt8) : numVal (l ++ [c]) = min (10 * numVal l + ((c.toNat : Int) - 48)) 1099511627776 := by
  unfold numVal; rw [List.foldl_append]; rfl
theorem take_snoc (s : ByteArray) (k : Nat) (h : k < s.size) : s.data.toList.take (k + 1) = s.data.toList.take k ++ [s[k]] := by
  rw [List.take_succ_eq_append_getElem (by simpa using h)]; rfl
theorem take_all {s : ByteArray} {k : Nat} (h : s.size ≤ k) : s.data.toList.take k = s.data.toList := List.take_of_length_le (by simpa using h)

def numRes (l : List UInt8) : Value := if numOk l then .tuple #[.int .i64 (numVal l), .bool true] else .tuple #[.int .i64 0, .bool false]
theorem numRes_no {l : List UInt8} (h : numOk l = false) : numRes l = .tuple #[.int .i64 0, .bool false] := by simp [numRes, h]
theorem numRes_yes {l : List UInt8} (h : numOk l = true) : numRes l = .tuple #[.int .i64 (numVal l), .bool true] := by simp [numRes, h]
theorem mem_at (s : ByteArray) (k : Nat) (h : k < s.size) : s[k] ∈ s.data.toList := by
  have : s.data.toList[k]'(by simpa using h) ∈ s.data.toList := List.getElem_mem _
  exact this
theorem all_not {s : ByteArray} {k : Nat} (h : k < s.size) (hd : isDig s[k] = false) : s.data.toList.all isDig = false := by
  rw [Bool.eq_false_iff]; intro hall
  rw [List.all_eq_true] at hall
  rw [hall _ (mem_at s k h)] at hd; cases hd
theorem numOk_not {s : ByteArray} {k : Nat} (h : k < s.size) (hd : isDig s[k] = false) : numOk s.data.toList = false := by
  unfold numOk; rw [all_not h hd, Bool.and_false]
theorem numOk_bad {l : List UInt8} (h : numBad l = true) : numOk l = false := by simp [numOk, h]
theorem numOk_good {l : List UInt8} (h : numBad l = false) (hd : l.all isDig = true) : numOk l = true := by simp [numOk, h, hd]
theorem dig_lo {c : UInt8} (h : (c.toNat : Int) < 48) : isDig c = false := by unfold isDig; rw [decide_eq_false (by omega)]; rfl
theorem dig_hi {c : UInt8} (h : 57 < (c.toNat : Int)) : isDig c = false := by unfold isDig; rw [decide_eq_false (p := (c.toNat : Int) ≤ 57) (by omega), Bool.and_false]
theorem dig_in {c : UInt8} (h1 : ¬ (c.toNat : Int) < 48) (h2 : ¬ 57 < (c.toNat : Int)) : isDig c = true := by unfold isDig; rw [decide_eq_true (by omega), decide_eq_true (by omega)]; rfl
theorem all_step {s : ByteArray} {k : Nat} (h : k < s.size) (ha : (s.data.toList.take k).all isDig = true) (hd : isDig s[k] = true) : (s.data.toList.take (k + 1)).all isDig = true := by
  rw [take_snoc s k h, List.all_append, ha]; simp [hd]
theorem val_step {s : ByteArray} {k : Nat} (h : k < s.size) : min (10 * numVal (s.data.toList.take k) + ((s[k].toNat : Int) - 48)) 1099511627776 = numVal (s.data.toList.take (k + 1)) := by
  rw [take_snoc s k h, numVal_snoc]
theorem head_at (s : ByteArray) (h : 0 < s.size) : s.data.toList.head? = some s[0] := by
  rw [List.head?_eq_getElem?, List.getElem?_eq_getElem (by simpa using h)]; rfl
theorem empty_of_size {s : ByteArray} (h : ¬ 0 < s.size) : s.data.toList = [] := by
  apply List.eq_nil_of_length_eq_zero
  rw [← Lib.size_eq]; omega
theorem size_of_empty {s : ByteArray} (h : s.data.toList = []) : s.size = 0 := by rw [Lib.size_eq, h]; rfl
theorem byte48 {c : UInt8} (h : (c.toNat : Int) = 48) : c = 48 := by
  apply UInt8.toNat_inj.1; have : (48 : UInt8).toNat = 48 := rfl; omega
theorem byte48_not {c : UInt8} (h : ¬ (c.toNat : Int) = 48) : c ≠ 48 := by intro e; subst e; exact h rfl
theorem bad_not48 {s : ByteArray} (h0 : 0 < s.size) (h : ¬ (s[0].toNat : Int) = 48) : numBad s.data.toList = false := by
  have hne : s.data.toList.isEmpty = false := by
    rw [Bool.eq_false_iff]; intro e; have := size_of_empty (List.isEmpty_iff.1 e); omega
  unfold numBad
  rw [hne, head_at s h0]
  simp [byte48_not h]
theorem bad_48 {s : ByteArray} (h0 : 0 < s.size) (h : (s[0].toNat : Int) = 48) (hz : (s.toList == [48]) = false) : numBad s.data.toList = true := by
  have hz' : s.data.toList ≠ [48] := by rw [← Lib.toList_data]; simpa using hz
  unfold numBad
  rw [head_at s h0, byte48 h]
  simp [hz']
theorem bad_zero {s : ByteArray} (hz : (s.toList == [48]) = true) : numBad s.data.toList = false := by
  have hz' : s.data.toList = [48] := by rw [← Lib.toList_data]; simpa using hz
  rw [hz']; rfl

theorem cat5 (l m : List UInt8) : (ByteArray.mk #[91] ++ ByteArray.mk l.toArray ++ ByteArray.mk #[44, 32] ++ ByteArray.mk m.toArray ++ ByteArray.mk #[41]) = ByteArray.mk ([91] ++ l ++ [44, 32] ++ m ++ [41]).toArray := by
  rw [show (#[91] : Array UInt8) = [91].toArray from rfl, show (#[44, 32] : Array UInt8) = [44, 32].toArray from rfl, show (#[41] : Array UInt8) = [41].toArray from rfl]
  simp only [ByteArray.mk_append_mk]

theorem ret_str {x y : ByteArray} (h : x = y) : Ending.returned (.string x) = Ending.returned (.string y) := by rw [h]

/-- One digit, cut out of the constant. -/
theorem digit_cut_fin : ∀ i : Fin 10, (ByteArray.mk #[48, 49, 50, 51, 52, 53, 54, 55, 56, 57]).extract i.val (i.val + 1) = ByteArray.mk [UInt8.ofNat (48 + i.val)].toArray := by decide +kernel
theorem digit_cut (i : Nat) (h : i < 10) : (ByteArray.mk #[48, 49, 50, 51, 52, 53, 54, 55, 56, 57]).extract i (i + 1) = ByteArray.mk [UInt8.ofNat (48 + i)].toArray := digit_cut_fin ⟨i, h⟩

theorem dec_step (k : Nat) (h : 9 < k) : Lib.decDigits k = Lib.decDigits (k / 10) ++ [UInt8.ofNat (48 + k % 10)] := by
  rw [Lib.decDigits, dif_neg (by omega)]
theorem dec_last (k : Nat) (h : k ≤ 9) : Lib.decDigits k = [UInt8.ofNat (48 + k)] := by
  rw [Lib.decDigits, dif_pos (by omega)]
theorem itoa_nat (n : Nat) : Lib.itoa (n : Int) = Lib.decDigits n := by
  unfold Lib.itoa
  rw [if_neg (by omega), Int.toNat_natCast]
theorem number_step {n k : Nat} {l : List UInt8} (h9 : 9 < k) (hd : Lib.decDigits n = Lib.decDigits k ++ l) : Lib.decDigits n = Lib.decDigits (k / 10) ++ (UInt8.ofNat (48 + k % 10) :: l) := by
  rw [hd, dec_step k h9]; simp
theorem number_str (k : Nat) (l : List UInt8) (h : k < 10) : (ByteArray.mk #[48, 49, 50, 51, 52, 53, 54, 55, 56, 57]).extract k (k + 1) ++ ByteArray.mk l.toArray = ByteArray.mk (UInt8.ofNat (48 + k) :: l).toArray := by
  rw [digit_cut k h, ByteArray.mk_append_mk]; rfl

def numN (l : List UInt8) : Int := if numOk l then numVal l else 0
theorem numRes_eq (l : List UInt8) : numRes l = .tuple #[.int .i64 (numN l), .bool (numOk l)] := by
  unfold numRes numN; cases numOk l <;> rfl
theorem numN_bd (l : List UInt8) : 0 ≤ numN l ∧ numN l ≤ 1099511627776 := by
  unfold numN
  cases h : numOk l
  · simp
  · have : l.all isDig = true := by unfold numOk at h; rw [Bool.and_eq_true] at h; exact h.2
    simpa using numVal_bd this

def cutHead (l : List UInt8) : List UInt8 := Lib.trimPrefix l [91]
def cutTail (l : List UInt8) : List UInt8 := Lib.trimSuffix (cutHead l) [41]
def cutFirst (l : List UInt8) : List UInt8 := (Lib.cut (cutTail l) [44, 32]).1
def cutSecond (l : List UInt8) : List UInt8 := (Lib.cut (cutTail l) [44, 32]).2.1
def cutOpn (l : List UInt8) : Bool := Lib.hasPrefix l [91]
def cutCls (l : List UInt8) : Bool := Lib.hasSuffix (cutHead l) [41]
def cutDvd (l : List UInt8) : Bool := (Lib.cut (cutTail l) [44, 32]).2.2
def cutWhole (l : List UInt8) : Bool := cutOpn l && cutCls l && cutDvd l

/-- A period and an error (0: none, 1: syntax, 6: range). -/
def chk (a b : Int) : Int × Int × Int := if vld a b then (a, b, 0) else (0, 0, 6)
def parseP (l : List UInt8) : Int × Int × Int :=
  if cutWhole l = false then (0, 0, 1) else if numOk (cutFirst l) = false then (0, 0, 1)
  else if cutSecond l = sForever then chk (numN (cutFirst l)) 1099511627776
  else if numOk (cutSecond l) = false then (0, 0, 1)
  else if numN (cutSecond l) = 1099511627776 then (0, 0, 6) else chk (numN (cutFirst l)) (numN (cutSecond l))
def perErr (p : Int × Int × Int) : Value := .tuple #[.agg #[.int .i64 p.1, .int .i64 p.2.1], .int .i64 p.2.2]
theorem ret_pe {p q : Int × Int × Int} (h : p = q) : Ending.returned (perErr p) = Ending.returned (perErr q) := by rw [h]
end Go.Proofs.Ytpiadcfejbnonaa.Va
/-
  Plain facts on the text of a period: it is parsed back. Conditions: none.
-/
namespace Go.Proofs.Ytpiadcfejbnonaa.Va
set_option linter.unusedVariables false
set_option linter.unusedSimpArgs false
set_option linter.unusedVariables false
set_option linter.unusedSimpArgs false
set_option linter.unusedVariables false
set_option linter.unusedSimpArgs false
set_option maxRecDepth 100000

theorem dec_big (n : Nat) (h : ¬ n < 10) : Lib.decDigits n = Lib.decDigits (n / 10) ++ [UInt8.ofNat (48 + n % 10)] := by
  rw [Lib.decDigits, dif_neg h]
theorem dec_small (n : Nat) (h : n < 10) : Lib.decDigits n = [UInt8.ofNat (48 + n)] := by
  rw [Lib.decDigits, dif_pos h]
theorem dig_nat (k : Nat) (h : k < 10) : (UInt8.ofNat (48 + k)).toNat = 48 + k := by
  exact (by decide : ∀ i : Fin 10, (UInt8.ofNat (48 + i.val)).toNat = 48 + i.val) ⟨k, h⟩
theorem isDig_nat (k : Nat) (h : k < 10) : isDig (UInt8.ofNat (48 + k)) = true := by
  have e := dig_nat k h
  exact dig_in (by omega) (by omega)
theorem dec_all (n : Nat) : (Lib.decDigits n).all isDig = true := by
  induction n using Nat.strongRecOn with
  | _ n ih =>
    by_cases h : n < 10
    · rw [dec_small n h, List.all_cons, isDig_nat n h]; rfl
    · rw [dec_big n h, List.all_append, ih (n / 10) (by omega), List.all_cons, isDig_nat (n % 10) (by omega)]; rfl
theorem dec_ne (n : Nat) : Lib.decDigits n ≠ [] := by
  by_cases h : n < 10
  · rw [dec_small n h]; simp
  · rw [dec_big n h]; simp
theorem dec_head (n : Nat) (h : 1 ≤ n) : ∃ c l, Lib.decDigits n = c :: l ∧ c ≠ 48 := by
  induction n using Nat.strongRecOn with
  | _ n ih =>
    by_cases h10 : n < 10
    · refine ⟨_, _, dec_small n h10, fun e => ?_⟩
      have e2 := dig_nat n h10
      rw [e] at e2
      have : (48 : UInt8).toNat = 48 := rfl
      omega
    · obtain ⟨c, l, hc, hne⟩ := ih (n / 10) (by omega) (by omega)
      exact ⟨c, l ++ [UInt8.ofNat (48 + n % 10)], by rw [dec_big n h10, hc]; rfl, hne⟩
theorem dec_good (n : Nat) : numBad (Lib.decDigits n) = false := by
  by_cases h : 1 ≤ n
  · obtain ⟨c, l, hc, hne⟩ := dec_head n h
    rw [hc]; simp [numBad, hne]
  · obtain rfl : n = 0 := by omega
    rw [dec_small 0 (by omega)]; rfl
theorem dec_ok (n : Nat) : numOk (Lib.decDigits n) = true := numOk_good (dec_good n) (dec_all n)
theorem dec_val (n : Nat) (h : n ≤ 1099511627776) : numVal (Lib.decDigits n) = n := by
  induction n using Nat.strongRecOn with
  | _ n ih =>
    by_cases h10 : n < 10
    · have e := dig_nat n h10
      rw [dec_small n h10]
      show min (10 * 0 + (((UInt8.ofNat (48 + n)).toNat : Int) - 48)) 1099511627776 = n
      omega
    · have e := dig_nat (n % 10) (by omega)
      rw [dec_big n h10, numVal_snoc, ih (n / 10) (by omega) (by omega)]
      omega
theorem dec_numN (n : Nat) (h : n ≤ 1099511627776) : numN (Lib.decDigits n) = n := by
  unfold numN; rw [if_pos (dec_ok n), dec_val n h]

theorem no_comma {l : List UInt8} (h : l.all isDig = true) (t : List UInt8) (i : Nat) (hi : i < l.length) : Lib.occAt (l ++ t) [44, 32] i = false := by
  unfold Lib.occAt
  rw [List.drop_append_of_le_length (by omega), List.drop_eq_getElem_cons hi]
  have hd : isDig l[i] = true := List.all_eq_true.1 h _ (List.getElem_mem _)
  have hne : ¬ (44 : UInt8) = l[i] := by
    intro e; rw [← e] at hd; exact absurd hd (by decide)
  show ((44 : UInt8) == l[i] && _) = false
  rw [beq_eq_false_iff_ne.2 hne]; rfl

theorem cut_text {A T : List UInt8} (h : A.all isDig = true) : Lib.cut (A ++ [44, 32] ++ T) [44, 32] = (A, T, true) := by
  have hidx : Lib.index (A ++ [44, 32] ++ T) [44, 32] = (A.length : Int) := by
    refine Lib.index_hit (fun i hi => ?_) (by simp) ?_
    · rw [List.append_assoc]; exact no_comma h _ i hi
    · unfold Lib.occAt; rw [List.append_assoc, List.drop_left]; simp [List.isPrefixOf]
  unfold Lib.cut
  rw [hidx, if_pos (by omega), Int.toNat_natCast]
  refine Prod.ext ?_ (Prod.ext ?_ rfl)
  · rw [List.append_assoc]; exact List.take_left
  · show (A ++ [44, 32] ++ T).drop (A.length + 2) = T
    rw [show A.length + 2 = (A ++ [44, 32]).length by simp]; exact List.drop_left

theorem head_text (A T : List UInt8) : cutHead ([91] ++ A ++ [44, 32] ++ T ++ [41]) = A ++ [44, 32] ++ T ++ [41] ∧ cutOpn ([91] ++ A ++ [44, 32] ++ T ++ [41]) = true := by
  have h : Lib.hasPrefix ([91] ++ A ++ [44, 32] ++ T ++ [41]) [91] = true := by simp [Lib.hasPrefix, List.isPrefixOf]
  refine ⟨?_, h⟩
  unfold cutHead Lib.trimPrefix
  rw [if_pos h]; simp
theorem tail_text (A T : List UInt8) : cutTail ([91] ++ A ++ [44, 32] ++ T ++ [41]) = A ++ [44, 32] ++ T ∧ cutCls ([91] ++ A ++ [44, 32] ++ T ++ [41]) = true := by
  have h : Lib.hasSuffix (A ++ [44, 32] ++ T ++ [41]) [41] = true := by
    unfold Lib.hasSuffix; rw [List.isSuffixOf_iff_suffix]; exact List.suffix_append _ _
  unfold cutTail cutCls
  rw [(head_text A T).1]
  refine ⟨?_, h⟩
  unfold Lib.trimSuffix
  rw [if_pos h]
  have e : (A ++ [44, 32] ++ T ++ [41]).length - ([41] : List UInt8).length = (A ++ [44, 32] ++ T).length := by simp
  rw [e]; exact List.take_left

theorem parse_text {a b : Int} (h : vld a b = true) : parseP (textP a b) = (a, b, 0) := by
  have hv : 0 ≤ a ∧ a < b ∧ b ≤ 1099511627776 := by simpa [vld, and_assoc] using h
  obtain ⟨n, rfl⟩ := Int.eq_ofNat_of_zero_le hv.1
  obtain ⟨m, rfl⟩ := Int.eq_ofNat_of_zero_le (show 0 ≤ b by omega)
  have key : ∀ T : List UInt8, cutWhole ([91] ++ Lib.decDigits n ++ [44, 32] ++ T ++ [41]) = true ∧ cutFirst ([91] ++ Lib.decDigits n ++ [44, 32] ++ T ++ [41]) = Lib.decDigits n ∧ cutSecond ([91] ++ Lib.decDigits n ++ [44, 32] ++ T ++ [41]) = T := by
    intro T
    have hc := cut_text (T := T) (dec_all n)
    unfold cutWhole cutDvd cutFirst cutSecond
    rw [(tail_text _ T).1, hc, (head_text _ T).2, (tail_text _ T).2]
    exact ⟨rfl, rfl, rfl⟩
  unfold textP
  rw [if_pos h, itoa_nat]
  by_cases hF : (m : Int) = 1099511627776
  · rw [if_pos hF]
    obtain ⟨h1, h2, h3⟩ := key sForever
    unfold parseP
    rw [h1, h2, h3, if_neg (by decide), if_neg (by rw [dec_ok]; decide), if_pos rfl, dec_numN n (by omega)]
    unfold chk; rw [← hF, if_pos h]
  · rw [if_neg hF, itoa_nat]
    obtain ⟨h1, h2, h3⟩ := key (Lib.decDigits m)
    have hne : ¬ Lib.decDigits m = sForever := by
      intro e; have := dec_all m; rw [e] at this; exact absurd this (by decide)
    unfold parseP
    rw [h1, h2, h3, if_neg (by decide), if_neg (by rw [dec_ok]; decide), if_neg hne, if_neg (by rw [dec_ok]; decide), dec_numN n (by omega), dec_numN m (by omega), if_neg hF]
    unfold chk; rw [if_pos h]

theorem text_len {a b : Int} (h : vld a b = true) (ha : (Lib.itoa a).length ≤ 21) (hb : (Lib.itoa b).length ≤ 21) : (textP a b).length ≤ 60 := by
  unfold textP; rw [if_pos h]
  have hs : sForever.length = 7 := rfl
  split <;> simp only [List.length_append, List.length_cons, List.length_nil] <;> omega
end Go.Proofs.Ytpiadcfejbnonaa.Va
/-
  Pure mathematics of values: printable texts, quoting and its way back, replacing all. Conditions: none.
-/
namespace Go.Proofs.Ytpiadcfejbnonaa.Va
set_option linter.unusedVariables false
set_option linter.unusedSimpArgs false
set_option linter.unusedVariables false
set_option linter.unusedSimpArgs false
set_option linter.unusedVariables false
set_option linter.unusedSimpArgs false
set_option maxRecDepth 100000

/-! ### replacing all -/
def rAl (old new : List UInt8) (s : List UInt8) : List UInt8 := Lib.replaceK old new (Lib.count s old) s
theorem index_cons_hit {s old : List UInt8} (h : old.isPrefixOf s = true) : Lib.index s old = 0 := by
  cases s with
  | nil =>
    unfold Lib.index
    cases old with
    | nil => rfl
    | cons a l => cases h
  | cons b t => unfold Lib.index; rw [if_pos h]
theorem rAl_hit {old new s : List UInt8} (hne : old ≠ []) (h : old.isPrefixOf s = true) : rAl old new s = new ++ rAl old new (s.drop old.length) := by
  have h0 : Lib.index s old = ((0 : Nat) : Int) := index_cons_hit h
  unfold rAl
  rw [Lib.count_hit hne h0, Nat.zero_add, Nat.add_comm 1, Lib.replaceK_hit old new _ s 0 h0]
  simp
theorem rAl_miss {old new : List UInt8} (hne : old ≠ []) (b : UInt8) (t : List UInt8) (h : old.isPrefixOf (b :: t) = false) : rAl old new (b :: t) = b :: rAl old new t := by
  rcases Lib.index_spec t old with ⟨h1, _⟩ | ⟨i, h1, _, _, _⟩
  · have h2 : Lib.index (b :: t) old = -1 := by unfold Lib.index; rw [h, h1]; rfl
    unfold rAl
    rw [Lib.count_miss h1, Lib.count_miss h2]
    rfl
  · have h2 : Lib.index (b :: t) old = ((i + 1 : Nat) : Int) := by
      unfold Lib.index
      rw [h, h1]
      have : ((i : Int) == -1) = false := by rw [beq_eq_false_iff_ne]; omega
      simp [this]
    have e : (b :: t).drop (i + 1 + old.length) = t.drop (i + old.length) := by rw [Nat.add_right_comm]; rfl
    unfold rAl
    rw [Lib.count_hit hne h1, Lib.count_hit hne h2, e, Nat.add_comm 1, Lib.replaceK_hit old new _ t i h1, Lib.replaceK_hit old new _ (b :: t) (i + 1) h2, e]
    rfl
theorem rAl_nil {old new : List UInt8} (hne : old ≠ []) : rAl old new [] = [] := by
  have h1 : Lib.index [] old = -1 := by
    unfold Lib.index
    cases old with
    | nil => exact absurd rfl hne
    | cons a l => rfl
  unfold rAl
  rw [Lib.count_miss h1]
  rfl
theorem replaceAll_rAl (s old new : List UInt8) (h : old ≠ new) : Lib.replaceAll s old new = rAl old new s := by
  unfold Lib.replaceAll Lib.replace rAl Lib.replaceNum
  rw [if_neg (by simpa using h), if_pos (.inl (by omega))]

/-! ### quoting -/
/-- Every quote twice. -/
def dbl : List UInt8 → List UInt8
  | [] => []
  | b :: t => if b = 39 then 39 :: 39 :: dbl t else b :: dbl t
theorem rAl_dbl : ∀ s : List UInt8, rAl [39] [39, 39] s = dbl s
  | [] => rAl_nil (by simp)
  | b :: t => by
    by_cases h : b = 39
    · subst h
      rw [rAl_hit (by simp) (by rfl)]
      simp only [List.length_singleton, List.drop_succ_cons, List.drop_zero, dbl, if_true]
      rw [rAl_dbl t]; rfl
    · rw [rAl_miss (by simp) b t (by simp [List.isPrefixOf, Ne.symm h]), rAl_dbl t, dbl, if_neg h]
theorem all_dbl (s : List UInt8) : Lib.replaceAll s [39] [39, 39] = dbl s := by
  rw [replaceAll_rAl _ _ _ (by decide), rAl_dbl]
/-- What is inside a literal, every two quotes as one. -/
theorem rAl_und : ∀ s : List UInt8, rAl [39, 39] [39] (dbl s) = s
  | [] => rAl_nil (by simp)
  | b :: t => by
    by_cases h : b = 39
    · subst h
      rw [dbl, if_pos rfl, rAl_hit (by simp) (by rfl)]
      simp only [List.length_cons, List.length_nil, Nat.zero_add, List.drop_succ_cons, List.drop_zero]
      rw [rAl_und t]; rfl
    · rw [dbl, if_neg h, rAl_miss (by simp) b _ (by simp [List.isPrefixOf, Ne.symm h]), rAl_und t]
theorem all_und (s : List UInt8) : Lib.replaceAll (dbl s) [39, 39] [39] = s := by
  rw [replaceAll_rAl _ _ _ (by decide), rAl_und]
theorem dbl_app : ∀ s t : List UInt8, dbl (s ++ t) = dbl s ++ dbl t
  | [], t => rfl
  | b :: s, t => by
    simp only [List.cons_append, dbl]
    split <;> simp [dbl_app s t]
theorem dbl_len : ∀ s : List UInt8, (dbl s).length ≤ 2 * s.length ∧ s.length ≤ (dbl s).length
  | [] => ⟨Nat.le_refl _, Nat.le_refl _⟩
  | b :: s => by
    have := dbl_len s
    unfold dbl
    split <;> simp only [List.length_cons] <;> omega
theorem rAl_len (s : List UInt8) : ∀ n, s.length ≤ n → (rAl [39, 39] [39] s).length ≤ s.length := by
  intro n
  induction n generalizing s with
  | zero => intro h; have : s = [] := List.eq_nil_of_length_eq_zero (by omega); subst this; rw [rAl_nil (by simp)]; exact Nat.le_refl _
  | succ n ih =>
    intro h
    cases s with
    | nil => rw [rAl_nil (by simp)]; exact Nat.le_refl _
    | cons b t =>
      cases hp : ([39, 39] : List UInt8).isPrefixOf (b :: t)
      · rw [rAl_miss (by simp) b t hp]
        have := ih t (by simp only [List.length_cons] at h; omega)
        simp only [List.length_cons]; omega
      · rw [rAl_hit (by simp) hp]
        have h2 : ((b :: t).drop 2).length ≤ n := by rw [List.length_drop]; simp only [List.length_cons] at h ⊢; omega
        have := ih ((b :: t).drop 2) h2
        rw [show ([39, 39] : List UInt8).length = 2 from rfl, List.length_append]
        have h3 : 2 ≤ (b :: t).length := by
          cases t with
          | nil => simp [List.isPrefixOf] at hp
          | cons c t => simp
        rw [List.length_drop] at this
        rw [show ([39] : List UInt8).length = 1 from rfl]
        omega
theorem und_len (s : List UInt8) : (Lib.replaceAll s [39, 39] [39]).length ≤ s.length := by
  rw [replaceAll_rAl _ _ _ (by decide)]; exact rAl_len s _ (Nat.le_refl _)
/-- A text between quotes. -/
def quo (s : List UInt8) : List UInt8 := 39 :: dbl s ++ [39]
theorem quo_inj {s t : List UInt8} (h : quo s = quo t) : s = t := by
  have h1 : dbl s = dbl t := by
    unfold quo at h
    injection h with _ h
    exact List.append_cancel_right h
  rw [← all_und s, ← all_und t, h1]
/-- What the program takes for the text. -/
def innT (s : List UInt8) : List UInt8 := Lib.replaceAll (Lib.trimSuffix (Lib.trimPrefix s [39]) [39]) [39, 39] [39]
theorem inn_quo (s : List UInt8) : innT (quo s) = s := by
  unfold innT quo
  have h1 : Lib.trimPrefix (39 :: dbl s ++ [39]) [39] = dbl s ++ [39] := by
    unfold Lib.trimPrefix Lib.hasPrefix
    rw [if_pos (by simp [List.isPrefixOf])]
    simp
  have h2 : Lib.trimSuffix (dbl s ++ [39]) [39] = dbl s := by
    unfold Lib.trimSuffix Lib.hasSuffix
    rw [if_pos (by simp)]
    simp
  rw [h1, h2, all_und]

/-! ### printable -/
def prnL (l : List UInt8) : Bool := l.all fun b => decide (32 ≤ b.toNat) && decide (b.toNat ≤ 126)
def badR (x : Nat) : Bool := decide (x < 32) || decide (126 < x)
theorem badR_decode (n b0 b1 b2 b3 : Nat) (h : ¬ (32 ≤ b0 ∧ b0 ≤ 126)) : badR (Lib.decodeN n b0 b1 b2 b3).1 = true := by
  unfold badR
  simp only [Bool.or_eq_true, decide_eq_true_eq]
  unfold Lib.decodeN
  repeat' split
  all_goals (dsimp only; omega)
theorem goodR_decode (n b0 b1 b2 b3 : Nat) (h : 32 ≤ b0 ∧ b0 ≤ 126) : Lib.decodeN n b0 b1 b2 b3 = (b0, 1) ∧ badR b0 = false := by
  unfold badR Lib.decodeN
  rw [if_pos (by omega)]
  refine ⟨rfl, ?_⟩
  rw [decide_eq_false (by omega), decide_eq_false (by omega)]; rfl
theorem get_list (s : ByteArray) (i : Nat) (h : i < s.size) : s.get! i = s[i] := by
  show s.data[i]! = s.data[i]
  exact getElem!_pos s.data i h
theorem idx_prn_from (s : ByteArray) : ∀ (f pos : Nat), s.size ≤ pos + f → (decide (0 ≤ Lib.idxFuncFrom badR true s f pos) = !prnL (s.data.toList.drop pos))
  | 0, pos, h => by
    rw [List.drop_eq_nil_of_le (by rw [← Lib.size_eq]; omega)]
    rfl
  | f + 1, pos, h => by
    unfold Lib.idxFuncFrom
    by_cases hp : pos < s.size
    · rw [if_pos hp]
      have hd : s.data.toList.drop pos = s[pos] :: s.data.toList.drop (pos + 1) := List.drop_eq_getElem_cons (by rw [← Lib.size_eq]; exact hp)
      have hg : (s.get! pos).toNat = s[pos].toNat := by rw [get_list s pos hp]
      rw [Lib.decode_at, hg, hd]
      by_cases hb : 32 ≤ s[pos].toNat ∧ s[pos].toNat ≤ 126
      · obtain ⟨e, e2⟩ := goodR_decode (s.size - pos) s[pos].toNat (s.get! (pos + 1)).toNat (s.get! (pos + 2)).toNat (s.get! (pos + 3)).toNat hb
        rw [e]
        dsimp only
        rw [e2, if_neg (by simp), idx_prn_from s f (pos + 1) (by omega)]
        unfold prnL
        rw [List.all_cons, decide_eq_true hb.1, decide_eq_true hb.2]
        rfl
      · rw [badR_decode _ _ _ _ _ hb, if_pos rfl, decide_eq_true (by omega)]
        unfold prnL
        rw [List.all_cons]
        have : (decide (32 ≤ s[pos].toNat) && decide (s[pos].toNat ≤ 126)) = false := by
          rw [Bool.eq_false_iff]; intro e; simp only [Bool.and_eq_true, decide_eq_true_eq] at e; exact hb e
        rw [this]; rfl
    · rw [if_neg hp, List.drop_eq_nil_of_le (by rw [← Lib.size_eq]; omega)]
      rfl
theorem idx_prn (s : ByteArray) : decide (0 ≤ Lib.idxFunc badR true s) = !prnL s.data.toList := idx_prn_from s s.size 0 (by omega)
end Go.Proofs.Ytpiadcfejbnonaa.Va
/-
  Truth values of the program and of the reference: what each function answers, in every world. Conditions: none.
-/
namespace Go.Proofs.Ytpiadcfejbnonaa.Va
set_option linter.unusedVariables false
set_option linter.unusedSimpArgs false
set_option linter.unusedVariables false
set_option linter.unusedSimpArgs false
set_option linter.unusedVariables false
set_option linter.unusedSimpArgs false
set_option maxRecDepth 100000
open Go.RowKit

def vnot (a : Int) : Int := if a = 0 then 2 else if a = 2 then 0 else 1
def vand (a b : Int) : Int := if a = 0 ∨ b = 0 then 0 else if a = 2 ∧ b = 2 then 2 else 1
def vor (a b : Int) : Int := if a = 2 ∨ b = 2 then 2 else if a = 0 ∧ b = 0 then 0 else 1
set_option maxHeartbeats 400000 in
theorem pNot_any (a : Int) (w : World) : Calls Try.prog 85 #[.int .i64 a] w fun e w' => e = .returned (.int .i64 (vnot a)) ∧ Below w.heap.size w w' := by
  unfold vnot
  by_cases h0 : a = 0
  · subst h0
    rw [if_pos rfl]
    go_enter Try.func85, Try.ntmps85
    go_wp2
    go_ret
    exact ⟨rfl, Below.refl _ _⟩
  · rw [if_neg h0]
    by_cases h2 : a = 2
    · subst h2
      rw [if_pos rfl]
      go_enter Try.func85, Try.ntmps85
      go_wp2
      go_ret
      exact ⟨rfl, Below.refl _ _⟩
    · rw [if_neg h2]
      have k0 : (a == 0) = false := by simpa using h0
      have k2 : (a == 2) = false := by simpa using h2
      go_enter Try.func85, Try.ntmps85
      go_wp2
      go_ret
      exact ⟨rfl, Below.refl _ _⟩
set_option maxHeartbeats 400000 in
theorem rNot_any (a : Int) (w : World) : Calls Try.prog 54 #[.int .i64 a] w fun e w' => e = .returned (.int .i64 (vnot a)) ∧ Below w.heap.size w w' := by
  unfold vnot
  by_cases h0 : a = 0
  · subst h0
    rw [if_pos rfl]
    go_enter Try.func54, Try.ntmps54
    go_wp2
    go_ret
    exact ⟨rfl, Below.refl _ _⟩
  · rw [if_neg h0]
    by_cases h2 : a = 2
    · subst h2
      rw [if_pos rfl]
      go_enter Try.func54, Try.ntmps54
      go_wp2
      go_ret
      exact ⟨rfl, Below.refl _ _⟩
    · rw [if_neg h2]
      have k0 : (a == 0) = false := by simpa using h0
      have k2 : (a == 2) = false := by simpa using h2
      go_enter Try.func54, Try.ntmps54
      go_wp2
      go_ret
      exact ⟨rfl, Below.refl _ _⟩
set_option maxHeartbeats 800000 in
theorem rAnd_any (a b : Int) (w : World) : Calls Try.prog 95 #[.int .i64 a, .int .i64 b] w fun e w' => e = .returned (.int .i64 (vand a b)) ∧ Below w.heap.size w w' := by
  unfold vand
  have ka : a = 0 ∨ a = 2 ∨ (a ≠ 0 ∧ a ≠ 2) := by omega
  have kb : b = 0 ∨ b = 2 ∨ (b ≠ 0 ∧ b ≠ 2) := by omega
  have fa0 : a ≠ 0 → (a == 0) = false := fun h => by simpa using h
  have fa2 : a ≠ 2 → (a == 2) = false := fun h => by simpa using h
  have fb0 : b ≠ 0 → (b == 0) = false := fun h => by simpa using h
  have fb2 : b ≠ 2 → (b == 2) = false := fun h => by simpa using h
  rcases ka with rfl | rfl | ⟨a0, a2⟩ <;> rcases kb with rfl | rfl | ⟨b0, b2⟩
  all_goals
    (try have xa0 := fa0 a0)
    (try have xa2 := fa2 a2)
    (try have xb0 := fb0 b0)
    (try have xb2 := fb2 b2)
    clear fa0 fa2 fb0 fb2
    first | rw [if_pos (by omega)] | (rw [if_neg (by omega)]; first | rw [if_pos (by omega)] | rw [if_neg (by omega)])
    go_enter Try.func95, Try.ntmps95
    go_wp2
    go_ret
    exact ⟨rfl, Below.refl _ _⟩
set_option maxHeartbeats 800000 in
theorem rOr_any (a b : Int) (w : World) : Calls Try.prog 96 #[.int .i64 a, .int .i64 b] w fun e w' => e = .returned (.int .i64 (vor a b)) ∧ Below w.heap.size w w' := by
  unfold vor
  have ka : a = 0 ∨ a = 2 ∨ (a ≠ 0 ∧ a ≠ 2) := by omega
  have kb : b = 0 ∨ b = 2 ∨ (b ≠ 0 ∧ b ≠ 2) := by omega
  have fa0 : a ≠ 0 → (a == 0) = false := fun h => by simpa using h
  have fa2 : a ≠ 2 → (a == 2) = false := fun h => by simpa using h
  have fb0 : b ≠ 0 → (b == 0) = false := fun h => by simpa using h
  have fb2 : b ≠ 2 → (b == 2) = false := fun h => by simpa using h
  rcases ka with rfl | rfl | ⟨a0, a2⟩ <;> rcases kb with rfl | rfl | ⟨b0, b2⟩
  all_goals
    (try have xa0 := fa0 a0)
    (try have xa2 := fa2 a2)
    (try have xb0 := fb0 b0)
    (try have xb2 := fb2 b2)
    clear fa0 fa2 fb0 fb2
    first | rw [if_pos (by omega)] | (rw [if_neg (by omega)]; first | rw [if_pos (by omega)] | rw [if_neg (by omega)])
    go_enter Try.func96, Try.ntmps96
    go_wp2
    go_ret
    exact ⟨rfl, Below.refl _ _⟩
/-- What combined answers for two truth values. -/
def cmbT (d a b : Int) : Int := if a = d ∨ b = d then d else if a = vnot d ∧ b = vnot d then vnot d else 1
set_option maxRecDepth 100000 in
set_option maxHeartbeats 1600000 in
theorem combined_two (d a b : Int) (g c : Nat) (w : World) (hg : g < w.heap.size) (h0 : w.cell? ⟨g, 0, none⟩ = some (.int .i64 a)) (h1 : w.cell? ⟨g, 1, none⟩ = some (.int .i64 b)) :
    Calls Try.prog 109 #[.int .i64 d, .slice (some ⟨g, 0, none⟩) 2 c] w fun e w' => e = .returned (.int .i64 (cmbT d a b)) ∧ Below w.heap.size w w' := by
  generalize hR : cmbT d a b = R
  have HR := Lib.hid hR
  have HN := Lib.hid (fun w' => pNot_any d w')
  generalize hnd : vnot d = nd at *
  have HD : Hid (cmbT d a b = if a = d ∨ b = d then d else if a = nd ∧ b = nd then nd else 1) := Lib.hid (by rw [← hnd]; rfl)
  clear hR hnd
  go_enter Try.func109, Try.ntmps109
  go_wp2_with fail
  refine (HN.out w).mono ?_
  rintro e w1 ⟨rfl, hb1⟩
  go_wp2
  go_loopw [5, 12] (fun r i wr => ∃ k : Nat, k ≤ 2 ∧ i = .int .i64 k ∧ Hid ((k = 0 → r = .int .i64 nd) ∧ (k = 1 → a ≠ d ∧ r = .int .i64 (if a = nd then nd else 1)) ∧ (k = 2 → r = .int .i64 R)) ∧ Below w.heap.size w wr) (fun _ i _ => 2 - (intOf i).toNat)
  case atStart => exact ⟨0, by omega, rfl, Lib.hid ⟨fun _ => rfl, fun h => by omega, fun h => by omega⟩, hb1⟩
  case round =>
    obtain ⟨k, hk, rfl, hr, hbr⟩ := hrel
    have hbz := hbr.size
    have d0 := (hbr.cell (p := ⟨g, 0, none⟩) hg).trans h0
    have d1 := (hbr.cell (p := ⟨g, 1, none⟩) hg).trans h1
    have hk3 : k = 0 ∨ k = 1 ∨ k = 2 := by omega
    rcases hk3 with rfl | rfl | rfl
    · have e := hr.out.1 rfl
      subst e
      clear hr
      by_cases ha : a = d
      · have HE : d = R := by rw [← HR.out, HD.out, if_pos (.inl ha)]
        subst HE
        subst ha
        clear HR HD
        go_wp2
        go_ret
        exact ⟨rfl, hbr⟩
      · have ka : (a == d) = false := by simpa using ha
        have HA := Lib.hid ha
        clear ha
        by_cases hn : a = nd
        · subst hn
          go_wp2_with (go_at_call 85; refine (HN.out _).mono ?_; rintro e w2 ⟨rfl, hb2⟩)
          go_roundw
          case rel => exact ⟨1, by omega, by go_num, Lib.hid ⟨fun h => by omega, fun _ => ⟨HA.out, by simp⟩, fun h => by omega⟩, hbr.trans (hb2.mono hbz)⟩
          case measure => simp [intOf] <;> omega
        · have kn : (a == nd) = false := by simpa using hn
          have HNn := Lib.hid hn
          clear hn
          go_wp2_with (go_at_call 85; refine (HN.out _).mono ?_; rintro e w2 ⟨rfl, hb2⟩)
          go_roundw
          case rel => exact ⟨1, by omega, by go_num, Lib.hid ⟨fun h => by omega, fun _ => ⟨HA.out, by rw [if_neg HNn.out]⟩, fun h => by omega⟩, hbr.trans (hb2.mono hbz)⟩
          case measure => simp [intOf] <;> omega
    · obtain ⟨hA, e⟩ := hr.out.2.1 rfl
      have HA := Lib.hid hA
      by_cases hb : b = d
      · have HE : d = R := by rw [← HR.out, HD.out, if_pos (.inr hb)]
        subst HE
        subst hb
        generalize (if a = nd then nd else (1 : Int)) = x at *
        subst e
        clear HR HD hr hA
        go_wp2
        go_ret
        exact ⟨rfl, hbr⟩
      · have kb : (b == d) = false := by simpa using hb
        have HB := Lib.hid hb
        clear hb
        by_cases hn : b = nd
        · have HX : Hid (R = if a = nd then nd else 1) := Lib.hid (by
            rw [← HR.out, HD.out, if_neg (fun h => by rcases h with h | h; exact HA.out h; exact HB.out h)]
            by_cases h : a = nd
            · rw [if_pos ⟨h, hn⟩, if_pos h]
            · rw [if_neg (fun h2 => h h2.1), if_neg h])
          subst hn
          generalize hx : (if a = b then b else (1 : Int)) = x at *
          subst e
          have HX2 := Lib.hid hx
          clear hx hr hA
          go_wp2_with (go_at_call 85; refine (HN.out _).mono ?_; rintro e w2 ⟨rfl, hb2⟩)
          go_roundw
          case rel => exact ⟨2, by omega, by go_num, Lib.hid ⟨fun h => by omega, fun h => by omega, fun _ => by rw [HX.out]⟩, hbr.trans (hb2.mono hbz)⟩
          case measure => simp [intOf] <;> omega
        · have kn : (b == nd) = false := by simpa using hn
          have HX : Hid (R = 1) := Lib.hid (by
            rw [← HR.out, HD.out, if_neg (fun h => by rcases h with h | h; exact HA.out h; exact HB.out h), if_neg (fun h => hn h.2)])
          generalize hx : (if a = nd then nd else (1 : Int)) = x at *
          subst e
          clear hx hr hA hn
          go_wp2_with (go_at_call 85; refine (HN.out _).mono ?_; rintro e w2 ⟨rfl, hb2⟩)
          go_roundw
          case rel => exact ⟨2, by omega, by go_num, Lib.hid ⟨fun h => by omega, fun h => by omega, fun _ => by rw [HX.out]⟩, hbr.trans (hb2.mono hbz)⟩
          case measure => simp [intOf] <;> omega
    · have e := hr.out.2.2 rfl
      subst e
      clear hr
      go_wp2
      go_ret
      exact ⟨rfl, hbr⟩
theorem cmb_and (a b : Int) : cmbT 0 a b = vand a b := by
  unfold cmbT vand vnot
  simp
theorem cmb_or (a b : Int) : cmbT 2 a b = vor a b := by
  unfold cmbT vor vnot
  simp
theorem two_new (w : World) (x y : Value) (t : TypeId) : Below w.heap.size w (w.alloc (.cells #[x, y] t)) ∧ w.heap.size < (w.alloc (.cells #[x, y] t)).heap.size ∧ (w.alloc (.cells #[x, y] t)).cell? ⟨w.heap.size, 0, none⟩ = some x ∧ (w.alloc (.cells #[x, y] t)).cell? ⟨w.heap.size, 1, none⟩ = some y := by
  refine ⟨(Below.refl _ _).alloc (Nat.le_refl _) _, by rw [World.size_alloc]; omega, ?_, ?_⟩
  · rw [cell_of_row _ _ 0 #[x, y] t (0, 0) (heap_alloc_new w _)]; rfl
  · rw [cell_of_row _ _ 1 #[x, y] t (0, 0) (heap_alloc_new w _)]; rfl
set_option maxHeartbeats 800000 in
theorem pAnd_any (a b : Int) (w : World) : Calls Try.prog 86 #[.int .i64 a, .int .i64 b] w fun e w' => e = .returned (.int .i64 (vand a b)) ∧ Below w.heap.size w w' := by
  rw [← cmb_and]
  obtain ⟨b1, b2, b3, b4⟩ := two_new w (.int .i64 a) (.int .i64 b) 3
  have HX := Lib.hid (combined_two 0 a b w.heap.size 2 _ b2 b3 b4)
  generalize cmbT 0 a b = R at *
  clear b2 b3 b4
  go_enter Try.func86, Try.ntmps86
  go_wp2_with fail
  refine HX.out.mono ?_
  rintro e w1 ⟨rfl, hb1⟩
  have B := b1.trans (hb1.mono b1.size)
  go_wp2
  go_ret
  exact ⟨rfl, B⟩
set_option maxHeartbeats 800000 in
theorem pOr_any (a b : Int) (w : World) : Calls Try.prog 87 #[.int .i64 a, .int .i64 b] w fun e w' => e = .returned (.int .i64 (vor a b)) ∧ Below w.heap.size w w' := by
  rw [← cmb_or]
  obtain ⟨b1, b2, b3, b4⟩ := two_new w (.int .i64 a) (.int .i64 b) 3
  have HX := Lib.hid (combined_two 2 a b w.heap.size 2 _ b2 b3 b4)
  generalize cmbT 2 a b = R at *
  clear b2 b3 b4
  go_enter Try.func87, Try.ntmps87
  go_wp2_with fail
  refine HX.out.mono ?_
  rintro e w1 ⟨rfl, hb1⟩
  have B := b1.trans (hb1.mono b1.size)
  go_wp2
  go_ret
  exact ⟨rfl, B⟩
end Go.Proofs.Ytpiadcfejbnonaa.Va
/-
  Values: boxes that hold one, printable texts, validity: what each function answers, in every world. Conditions: none.
-/
namespace Go.Proofs.Ytpiadcfejbnonaa.Va
set_option linter.unusedVariables false
set_option linter.unusedSimpArgs false
set_option linter.unusedVariables false
set_option linter.unusedSimpArgs false
set_option linter.unusedVariables false
set_option linter.unusedSimpArgs false
set_option maxRecDepth 100000
open Go.RowKit

/-- A value as the program has it. -/
def vV (k n : Int) (s : ByteArray) : Value := .agg #[.int .i64 k, .int .i64 n, .string s]
theorem load_val {w : World} {g : Nat} {x y z : Value} (h : Own w g 23 #[x, y, z]) : (loadVar 23 ⟨g, 0, none⟩).run Try.prog w = .ok (.agg #[x, y, z]) w :=
  run_loadVar_row w g 23 23 #[x, y, z] (0, 0) _ h Try.underlying23 rfl (by kernel_rfl)
theorem results_cell_row1 {fn : Func} {p : Tmp} {ty : TypeId} (h : fn.results = #[.cell p ty]) (tmps : Array Value) (w : World) (g : Nat) (cs : Array Value) (hp : tmps.getD p undef = .pointer (some ⟨g, 0, none⟩))
    (hl : (loadVar ty ⟨g, 0, none⟩).run Try.prog w = .ok (.agg cs) w) : (results fn tmps).run Try.prog w = .ok (.agg cs) w := by
  have hp' : tmps[p]?.getD undef = .pointer (some ⟨g, 0, none⟩) := by simpa using hp
  simp [results, h, hp', asAddr, hl]
theorem results_cell_row2 {fn : Func} {p u : Tmp} {ty : TypeId} (h : fn.results = #[.cell p ty, .tmp u]) (tmps : Array Value) (w : World) (g : Nat) (cs : Array Value) (hp : tmps.getD p undef = .pointer (some ⟨g, 0, none⟩))
    (hl : (loadVar ty ⟨g, 0, none⟩).run Try.prog w = .ok (.agg cs) w) : (results fn tmps).run Try.prog w = .ok (.tuple #[.agg cs, tmps.getD u undef]) w := by
  have hp' : tmps[p]?.getD undef = .pointer (some ⟨g, 0, none⟩) := by simpa using hp
  simp [results, h, hp', asAddr, hl]
theorem own_two {w : World} {t : TypeId} {cs : Array Value} (o : Obj) : Own ((w.alloc o).alloc (.cells cs t)) (w.heap.size + 1) t cs := by
  have h := Own.new (w.alloc o) t cs
  rwa [World.size_alloc] at h
set_option maxHeartbeats 400000 in
theorem pNull_any (w : World) : Calls Try.prog 36 #[] w fun e w' => e = .returned (vV 0 0 ⟨#[]⟩) ∧ Below w.heap.size w w' := by
  go_enter Try.func36, Try.ntmps36
  go_wp2
  (try simp only [Exit.inBlock, Exit.then]); refine bodyPost_ret_by (results_cell_row1 (by rfl) _ _ (w.heap.size) _ (by rfl) (load_val (Own.new _ _ _))) ?_ ?_; (focus rfl); refine ⟨rfl, ?_⟩
  (repeat' (first | (with_reducible exact Below.refl _ _) | (with_reducible assumption) | (with_reducible refine Below.alloc ?_ ?_ _) | (with_reducible refine Below.drew ?_) | (with_reducible refine Below.setCell ?_ ?_ _) | (with_reducible refine Below.trans ?_ (Below.mono (by assumption) ?_)) | go_size))
set_option maxHeartbeats 400000 in
theorem rNull_any (w : World) : Calls Try.prog 28 #[] w fun e w' => e = .returned (vV 0 0 ⟨#[]⟩) ∧ Below w.heap.size w w' := by
  go_enter Try.func28, Try.ntmps28
  go_wp2
  (try simp only [Exit.inBlock, Exit.then]); refine bodyPost_ret_by (results_cell_row1 (by rfl) _ _ (w.heap.size) _ (by rfl) (load_val (Own.new _ _ _))) ?_ ?_; (focus rfl); refine ⟨rfl, ?_⟩
  (repeat' (first | (with_reducible exact Below.refl _ _) | (with_reducible assumption) | (with_reducible refine Below.alloc ?_ ?_ _) | (with_reducible refine Below.drew ?_) | (with_reducible refine Below.setCell ?_ ?_ _) | (with_reducible refine Below.trans ?_ (Below.mono (by assumption) ?_)) | go_size))
def vB (b : Bool) : Value := vV 3 (if b then 1 else 0) ⟨#[]⟩
set_option maxHeartbeats 400000 in
theorem pBool_any (b : Bool) (w : World) : Calls Try.prog 46 #[.bool b] w fun e w' => e = .returned (vB b) ∧ Below w.heap.size w w' := by
  cases b
  all_goals
    go_enter Try.func46, Try.ntmps46
    go_wp2
    (try simp only [Exit.inBlock, Exit.then]); refine bodyPost_ret_by (results_cell_row1 (by rfl) _ _ (w.heap.size) _ (by rfl) (load_val (Own.new _ _ _))) ?_ ?_; (focus rfl); refine ⟨rfl, ?_⟩
    (repeat' (first | (with_reducible exact Below.refl _ _) | (with_reducible assumption) | (with_reducible refine Below.alloc ?_ ?_ _) | (with_reducible refine Below.drew ?_) | (with_reducible refine Below.setCell ?_ ?_ _) | (with_reducible refine Below.trans ?_ (Below.mono (by assumption) ?_)) | go_size))
set_option maxHeartbeats 400000 in
theorem rBool_any (b : Bool) (w : World) : Calls Try.prog 61 #[.bool b] w fun e w' => e = .returned (vB b) ∧ Below w.heap.size w w' := by
  cases b
  all_goals
    go_enter Try.func61, Try.ntmps61
    go_wp2
    (try simp only [Exit.inBlock, Exit.then]); refine bodyPost_ret_by (results_cell_row1 (by rfl) _ _ (w.heap.size) _ (by rfl) (load_val (Own.new _ _ _))) ?_ ?_; (focus rfl); refine ⟨rfl, ?_⟩
    (repeat' (first | (with_reducible exact Below.refl _ _) | (with_reducible assumption) | (with_reducible refine Below.alloc ?_ ?_ _) | (with_reducible refine Below.drew ?_) | (with_reducible refine Below.setCell ?_ ?_ _) | (with_reducible refine Below.trans ?_ (Below.mono (by assumption) ?_)) | go_size))
set_option maxHeartbeats 400000 in
theorem truthOf_any (b : Bool) (w : World) : Calls Try.prog 111 #[.bool b] w fun e w' => e = .returned (.int .i64 (if b then 2 else 0)) ∧ w' = w := by
  cases b
  all_goals
    go_enter Try.func111, Try.ntmps111
    go_wp2
    go_ret
    exact ⟨rfl, rfl⟩
/-! ### printable -/
theorem clo_any (x : Nat) (hx : x ≤ 1114111) (w : World) : Calls Try.prog 130 #[.int .i32 (x : Int)] w fun e w' => e = .returned (.bool (badR x)) ∧ w' = w := by
  by_cases h1 : (x : Int) < 32
  · have hb : badR x = true := by unfold badR; rw [decide_eq_true (by omega)]; rfl
    go_enter Try.func130, Try.ntmps130
    go_wp2
    go_ret
    exact ⟨by first | rfl | (rw [hb]; rfl), rfl⟩
  · by_cases h2 : 126 < (x : Int)
    · have hb : badR x = true := by unfold badR; rw [decide_eq_true (p := 126 < x) (by omega), Bool.or_true]
      go_enter Try.func130, Try.ntmps130
      go_wp2
      go_ret
      exact ⟨by first | rfl | (rw [hb]; rfl), rfl⟩
    · have hb : badR x = false := by unfold badR; rw [decide_eq_false (by omega), decide_eq_false (by omega)]; rfl
      go_enter Try.func130, Try.ntmps130
      go_wp2
      go_ret
      exact ⟨by first | rfl | (rw [hb]; rfl), rfl⟩
theorem clo_enters : ∀ args w, (callFunc 130 args).run Try.prog w = .ok (.enter 130 args) w := enters_of Try.func130 (by kernel_rfl) rfl
theorem contains_any (s : ByteArray) (w : World) : Calls Try.prog 129 #[.string s, .func (.func 130) #[] #[]] w fun e w' => e = .returned (.bool (!prnL s.data.toList)) ∧ Below w.heap.size w w' := by
  rw [← idx_prn]
  exact Try.strings_ContainsFunc_runes _ _ clo_enters badR s w (fun W x hx _ => (clo_any x hx W).mono fun e w' ⟨h1, h2⟩ => ⟨h1, 0, h2⟩)
set_option maxHeartbeats 400000 in
theorem pPrn_any (s : ByteArray) (w : World) : Calls Try.prog 108 #[.string s] w fun e w' => e = .returned (.bool (prnL s.data.toList)) ∧ Below w.heap.size w w' := by
  have hc := fun W => contains_any s W
  cases hp : prnL s.data.toList <;> rw [hp] at hc
  all_goals
    go_enter Try.func108, Try.ntmps108
    go_wp2_with (go_at_call 129; refine (hc _).mono ?_; rintro e w1 ⟨rfl, hb⟩)
    go_ret
    refine ⟨rfl, ?_⟩
    (repeat' (first | (with_reducible exact Below.refl _ _) | (with_reducible assumption) | (with_reducible refine Below.alloc ?_ ?_ _) | (with_reducible refine Below.drew ?_) | (with_reducible refine Below.setCell ?_ ?_ _) | (with_reducible refine Below.trans ?_ (Below.mono (by assumption) ?_)) | go_size))
theorem prn_take_not {s : ByteArray} {k : Nat} (h : k < s.size) (hk : (s[k].toNat : Int) < 32 ∨ 126 < (s[k].toNat : Int)) : prnL s.data.toList = false := by
  unfold prnL
  rw [Bool.eq_false_iff]; intro e
  rw [List.all_eq_true] at e
  have hm : s[k] ∈ s.data.toList := by
    have : s.data.toList[k]'(by simpa using h) ∈ s.data.toList := List.getElem_mem _
    exact this
  have := e _ hm
  simp only [Bool.and_eq_true, decide_eq_true_eq] at this
  omega
theorem prn_step {s : ByteArray} {k : Nat} (h : k < s.size) (hp : prnL (s.data.toList.take k) = true) (h1 : ¬ (s[k].toNat : Int) < 32) (h2 : ¬ 126 < (s[k].toNat : Int)) : prnL (s.data.toList.take (k + 1)) = true := by
  rw [List.take_succ_eq_append_getElem (by simpa using h)]
  unfold prnL at hp ⊢
  rw [List.all_append, hp, List.all_cons, List.all_nil]
  have : s.data.toList[k]'(by simpa using h) = s[k] := rfl
  rw [this, decide_eq_true (by omega), decide_eq_true (by omega)]; rfl
set_option maxHeartbeats 800000 in
theorem rPrn_any (s : ByteArray) (w : World) (hs : s.size < 9223372036854775807) : Calls Try.prog 77 #[.string s] w fun e w' => e = .returned (.bool (prnL s.data.toList)) ∧ w' = w := by
  generalize hR : prnL s.data.toList = R
  have HR := Lib.hid hR
  clear hR
  go_enter Try.func77, Try.ntmps77
  go_wp2
  go_loop [3] (fun i => ∃ k : Nat, k ≤ s.size ∧ i = .int .i64 k ∧ Hid (prnL (s.data.toList.take k) = true)) (fun i => s.size - (intOf i).toNat)
  case atStart => exact ⟨0, Nat.zero_le _, rfl, Lib.hid rfl⟩
  case round =>
    obtain ⟨k, hk, rfl, hd⟩ := hrel
    by_cases hlt : k < s.size
    · by_cases hc1 : (s[k].toNat : Int) < 32
      · go_wp2
        go_ret
        exact ⟨by rw [show R = false by rw [← HR.out, prn_take_not hlt (.inl hc1)]]; rfl, rfl⟩
      · by_cases hc2 : 126 < (s[k].toNat : Int)
        · go_wp2
          go_ret
          exact ⟨by rw [show R = false by rw [← HR.out, prn_take_not hlt (.inr hc2)]]; rfl, rfl⟩
        · go_wp2
          go_round
          case rel => exact ⟨k + 1, by omega, by go_num, Lib.hid (prn_step hlt hd.out hc1 hc2)⟩
          case measure => simp [intOf]; omega
    · go_wp2
      go_ret
      have ht : s.data.toList.take k = s.data.toList := List.take_of_length_le (by rw [← Lib.size_eq]; omega)
      have hd' := hd.out
      rw [ht, HR.out] at hd'
      exact ⟨by rw [hd']; rfl, rfl⟩
end Go.Proofs.Ytpiadcfejbnonaa.Va
