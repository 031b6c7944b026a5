import Derived.Lib.ItoaNum
import Derived.Lib.IndexMore
import Derived.Lib.Strings
import Derived.Laws.Concat
import Derived.Test.YtceohfjmjdnelaaMA
import Derived.Lib.IndexLaws
import Derived.Lib.CountLaws
import Derived.Lib.Replace
import Derived.Lib.DecodeN
import Derived.Shelf.GgClosure.StringsIndexFunc
import Derived.Lib.AtoiAll
import Derived.Lib.SlTrimSet
import Derived.Test.YtceohfjmjdnelaaProg
import Derived.WalkKit
import Derived.WalkSpells
import Derived.WalkLawsBesides
import Derived.Deep.QuietTactic
import Derived.BigQuiet
import Derived.Handy
import Derived.Lib.Hide
import Derived.Test.YtceohfjmjdnelaaMB
/-
  The text of a period, as a function on bytes. Conditions: none.
-/
namespace Go.Proofs.Ytceohfjmjdnelaa.Va
set_option maxRecDepth 100000
def sForever : List UInt8 := [102, 111, 114, 101, 118, 101, 114]
def textP (a b : Int) : List UInt8 := if vld a b then [91] ++ Lib.itoa a ++ [44, 32] ++ (if b = 1099511627776 then sForever else Lib.itoa b) ++ [41] else []

/-- The value of decimal digits, at most the end of time. -/
def numVal (l : List UInt8) : Int := l.foldl (fun n c => min (10 * n + ((c.toNat : Int) - 48)) 1099511627776) 0
def isDig (c : UInt8) : Bool := decide (48 ≤ (c.toNat : Int)) && decide ((c.toNat : Int) ≤ 57)
def numBad (l : List UInt8) : Bool := l.isEmpty || (l.head? == some 48 && l != [48])
/-- A number without leading zeros. -/
def numOk (l : List UInt8) : Bool := !numBad l && l.all isDig

theorem numVal_bd_aux : ∀ (l : List UInt8) (n : Int), l.all isDig = true → 0 ≤ n → n ≤ 1099511627776 → 0 ≤ l.foldl (fun n c => min (10 * n + ((c.toNat : Int) - 48)) 1099511627776) n ∧ l.foldl (fun n c => min (10 * n + ((c.toNat : Int) - 48)) 1099511627776) n ≤ 1099511627776
  | [], n, _, h0, h1 => ⟨h0, h1⟩
  | c :: l, n, hl, h0, h1 => by
    simp only [List.all_cons, Bool.and_eq_true, isDig, decide_eq_true_eq] at hl
    have hl' : l.all isDig = true := by simpa [isDig, List.all_eq_true] using hl.2
    have h2 := hl.1
    exact numVal_bd_aux l (min (10 * n + ((c.toNat : Int) - 48)) 1099511627776) hl' (by omega) (by omega)
theorem numVal_bd {l : List UInt8} (h : l.all isDig = true) : 0 ≤ numVal l ∧ numVal l ≤ 1099511627776 := numVal_bd_aux l 0 h (by omega) (by omega)
theorem numVal_snoc (l : List UInt8) (c : UInt8) : numVal (l ++ [c]) = min (10 * numVal l + ((c.toNat : Int) - 48)) 1099511627776 := by
  unfold numVal; rw [List.foldl_append]; rfl
theorem take_snoc (s : ByteArray) (k : Nat) (h : k < s.size) : s.data.toList.take (k + 1) = s.data.toList.take k ++ [s[k]] := by
  rw [List.take_succ_eq_append_getElem (by simpa using h)]; rfl
theorem take_all {s : ByteArray} {k : Nat} (h : s.size ≤ k) : s.data.toList.take k = s.data.toList := List.take_of_length_le (by simpa using h)

def numRes (l : List UInt8) : Value := if numOk l then .tuple #[.int .i64 (numVal l), .bool true] else .tuple #[.int .i64 0, .bool false]
theorem numRes_no {l : List UInt8} (h : numOk l = false) : numRes l = .tuple #[.int .i64 0, .bool false] := by simp [numRes, h]
theorem numRes_yes {l : List UInt8} (h : numOk l = true) : numRes l = .tuple #[.int .i64 (numVal l), .bool true] := by simp [numRes, h]
theorem mem_at (s : ByteArray) (k : Nat) (h : k < s.size) : s[k] ∈ s.data.toList := by
  have : s.data.toList[k]'(by simpa using h) ∈ s.data.toList := List.getElem_mem _
  exact this
theorem all_not {s : ByteArray} {k : Nat} (h : k < s.size) (hd : isDig s[k] = false) : s.data.toList.all isDig = false := by
  rw [Bool.eq_false_iff]; intro hall
  rw [List.all_eq_true] at hall
  rw [hall _ (mem_at s k h)] at hd; cases hd
theorem numOk_not {s : ByteArray} {k : Nat} (h : k < s.size) (hd : isDig s[k] = false) : numOk s.data.toList = false := by
  unfold numOk; rw [all_not h hd, Bool.and_false]
theorem numOk_bad {l : List UInt8} (h : numBad l = true) : numOk l = false := by simp [numOk, h]
theorem numOk_good {l : List UInt8} (h : numBad l = false) (hd : l.all isDig = true) : numOk l = true := by simp [numOk, h, hd]
theorem dig_lo {c : UInt8} (h : (c.toNat : Int) < 48) : isDig c = false := by unfold isDig; rw [decide_eq_false (by omega)]; rfl
theorem dig_hi {c : UInt8} (h : 57 < (c.toNat : Int)) : isDig c = false := by unfold isDig; rw [decide_eq_false (p := (c.toNat : Int) ≤ 57) (by omega), Bool.and_false]
theorem dig_in {c : UInt8} (h1 : ¬ (c.toNat : Int) < 48) (h2 : ¬ 57 < (c.toNat : Int)) : isDig c = true := by unfold isDig; rw [decide_eq_true (by omega), decide_eq_true (by omega)]; rfl
theorem all_step {s : ByteArray} {k : Nat} (h : k < s.size) (ha : (s.data.toList.take k).all isDig = true) (hd : isDig s[k] = true) : (s.data.toList.take (k + 1)).all isDig = true := by
  rw [take_snoc s k h, List.all_append, ha]; simp [hd]
theorem val_step {s : ByteArray} {k : Nat} (h : k < s.size) : min (10 * numVal (s.data.toList.take k) + ((s[k].toNat : Int) - 48)) 1099511627776 = numVal (s.data.toList.take (k + 1)) := by
  rw [take_snoc s k h, numVal_snoc]
theorem head_at (s : ByteArray) (h : 0 < s.size) : s.data.toList.head? = some s[0] := by
  rw [List.head?_eq_getElem?, List.getElem?_eq_getElem (by simpa using h)]; rfl
theorem empty_of_size {s : ByteArray} (h : ¬ 0 < s.size) : s.data.toList = [] := by
  apply List.eq_nil_of_length_eq_zero
  rw [← Lib.size_eq]; omega
theorem size_of_empty {s : ByteArray} (h : s.data.toList = []) : s.size = 0 := by rw [Lib.size_eq, h]; rfl
theorem byte48 {c : UInt8} (h : (c.toNat : Int) = 48) : c = 48 := by
  apply UInt8.toNat_inj.1; have : (48 : UInt8).toNat = 48 := rfl; omega
theorem byte48_not {c : UInt8} (h : ¬ (c.toNat : Int) = 48) : c ≠ 48 := by intro e; subst e; exact h rfl
theorem bad_not48 {s : ByteArray} (h0 : 0 < s.size) (h : ¬ (s[0].toNat : Int) = 48) : numBad s.data.toList = false := by
  have hne : s.data.toList.isEmpty = false := by
    rw [Bool.eq_false_iff]; intro e; have := size_of_empty (List.isEmpty_iff.1 e); omega
  unfold numBad
  rw [hne, head_at s h0]
  simp [byte48_not h]
theorem bad_48 {s : ByteArray} (h0 : 0 < s.size) (h : (s[0].toNat : Int) = 48) (hz : (s.toList == [48]) = false) : numBad s.data.toList = true := by
  have hz' : s.data.toList ≠ [48] := by rw [← Lib.toList_data]; simpa using hz
  unfold numBad
  rw [head_at s h0, byte48 h]
  simp [hz']
theorem bad_zero {s : ByteArray} (hz : (s.toList == [48]) = true) : numBad s.data.toList = false := by
  have hz' : s.data.toList = [48] := by rw [← Lib.toList_data]; simpa using hz
  rw [hz']; rfl

theorem cat5 (l m : List UInt8) : (ByteArray.mk #[91] ++ ByteArray.mk l.toArray ++ ByteArray.mk #[44, 32] ++ ByteArray.mk m.toArray ++ ByteArray.mk #[41]) = ByteArray.mk ([91] ++ l ++ [44, 32] ++ m ++ [41]).toArray := by
  rw [show (#[91] : Array UInt8) = [91].toArray from rfl, show (#[44, 32] : Array UInt8) = [44, 32].toArray from rfl, show (#[41] : Array UInt8) = [41].toArray from rfl]
  simp only [ByteArray.mk_append_mk]

theorem ret_str {x y : ByteArray} (h : x = y) : Ending.returned (.string x) = Ending.returned (.string y) := by rw [h]

/-- One digit, cut out of the constant. -/
theorem digit_cut_fin : ∀ i : Fin 10, (ByteArray.mk #[48, 49, 50, 51, 52, 53, 54, 55, 56, 57]).extract i.val (i.val + 1) = ByteArray.mk [UInt8.ofNat (48 + i.val)].toArray := by decide +kernel
theorem digit_cut (i : Nat) (h : i < 10) : (ByteArray.mk #[48, 49, 50, 51, 52, 53, 54, 55, 56, 57]).extract i (i + 1) = ByteArray.mk [UInt8.ofNat (48 + i)].toArray := digit_cut_fin ⟨i, h⟩

theorem dec_step (k : Nat) (h : 9 < k) : Lib.decDigits k = Lib.decDigits (k / 10) ++ [UInt8.ofNat (48 + k % 10)] := by
  rw [Lib.decDigits, dif_neg (by omega)]
theorem dec_last (k : Nat) (h : k ≤ 9) : Lib.decDigits k = [UInt8.ofNat (48 + k)] := by
  rw [Lib.decDigits, dif_pos (by omega)]
theorem itoa_nat (n : Nat) : Lib.itoa (n : Int) = Lib.decDigits n := by
  unfold Lib.itoa
  rw [if_neg (by omega), Int.toNat_natCast]
theorem number_step {n k : Nat} {l : List UInt8} (h9 : 9 < k) (hd : Lib.decDigits n = Lib.decDigits k ++ l) : Lib.decDigits n = Lib.decDigits (k / 10) ++ (UInt8.ofNat (48 + k % 10) :: l) := by
  rw [hd, dec_step k h9]; simp
theorem number_str (k : Nat) (l : List UInt8) (h : k < 10) : (ByteArray.mk #[48, 49, 50, 51, 52, 53, 54, 55, 56, 57]).extract k (k + 1) ++ ByteArray.mk l.toArray = ByteArray.mk (UInt8.ofNat (48 + k) :: l).toArray := by
  rw [digit_cut k h, ByteArray.mk_append_mk]; rfl

def numN (l : List UInt8) : Int := if numOk l then numVal l else 0
theorem numRes_eq (l : List UInt8) : numRes l = .tuple #[.int .i64 (numN l), .bool (numOk l)] := by
  unfold numRes numN; cases numOk l <;> rfl
theorem numN_bd (l : List UInt8) : 0 ≤ numN l ∧ numN l ≤ 1099511627776 := by
  unfold numN
  cases h : numOk l
  · simp
  · have : l.all isDig = true := by unfold numOk at h; rw [Bool.and_eq_true] at h; exact h.2
    simpa using numVal_bd this

def cutHead (l : List UInt8) : List UInt8 := Lib.trimPrefix l [91]
def cutTail (l : List UInt8) : List UInt8 := Lib.trimSuffix (cutHead l) [41]
def cutFirst (l : List UInt8) : List UInt8 := (Lib.cut (cutTail l) [44, 32]).1
def cutSecond (l : List UInt8) : List UInt8 := (Lib.cut (cutTail l) [44, 32]).2.1
def cutOpn (l : List UInt8) : Bool := Lib.hasPrefix l [91]
def cutCls (l : List UInt8) : Bool := Lib.hasSuffix (cutHead l) [41]
def cutDvd (l : List UInt8) : Bool := (Lib.cut (cutTail l) [44, 32]).2.2
def cutWhole (l : List UInt8) : Bool := cutOpn l && cutCls l && cutDvd l

/-- A period and an error (0: none, 1: syntax, 6: range). -/
def chk (a b : Int) : Int × Int × Int := if vld a b then (a, b, 0) else (0, 0, 6)
def parseP (l : List UInt8) : Int × Int × Int :=
  if cutWhole l = false then (0, 0, 1) else if numOk (cutFirst l) = false then (0, 0, 1)
  else if cutSecond l = sForever then chk (numN (cutFirst l)) 1099511627776
  else if numOk (cutSecond l) = false then (0, 0, 1)
  else if numN (cutSecond l) = 1099511627776 then (0, 0, 6) else chk (numN (cutFirst l)) (numN (cutSecond l))
def perErr (p : Int × Int × Int) : Value := .tuple #[.agg #[.int .i64 p.1, .int .i64 p.2.1], .int .i64 p.2.2]
theorem ret_pe {p q : Int × Int × Int} (h : p = q) : Ending.returned (perErr p) = Ending.returned (perErr q) := by rw [h]
end Go.Proofs.Ytceohfjmjdnelaa.Va
/-
  Plain facts on the text of a period: it is parsed back. Conditions: none.
-/
namespace Go.Proofs.Ytceohfjmjdnelaa.Va
set_option maxRecDepth 100000

theorem dec_big (n : Nat) (h : ¬ n < 10) : Lib.decDigits n = Lib.decDigits (n / 10) ++ [UInt8.ofNat (48 + n % 10)] := by
  rw [Lib.decDigits, dif_neg h]
theorem dec_small (n : Nat) (h : n < 10) : Lib.decDigits n = [UInt8.ofNat (48 + n)] := by
  rw [Lib.decDigits, dif_pos h]
theorem dig_nat (k : Nat) (h : k < 10) : (UInt8.ofNat (48 + k)).toNat = 48 + k := by
  exact (by decide : ∀ i : Fin 10, (UInt8.ofNat (48 + i.val)).toNat = 48 + i.val) ⟨k, h⟩
theorem isDig_nat (k : Nat) (h : k < 10) : isDig (UInt8.ofNat (48 + k)) = true := by
  have e := dig_nat k h
  exact dig_in (by omega) (by omega)
theorem dec_all (n : Nat) : (Lib.decDigits n).all isDig = true := by
  induction n using Nat.strongRecOn with
  | _ n ih =>
    by_cases h : n < 10
    · rw [dec_small n h, List.all_cons, isDig_nat n h]; rfl
    · rw [dec_big n h, List.all_append, ih (n / 10) (by omega), List.all_cons, isDig_nat (n % 10) (by omega)]; rfl
theorem dec_ne (n : Nat) : Lib.decDigits n ≠ [] := by
  by_cases h : n < 10
  · rw [dec_small n h]; simp
  · rw [dec_big n h]; simp
theorem dec_head (n : Nat) (h : 1 ≤ n) : ∃ c l, Lib.decDigits n = c :: l ∧ c ≠ 48 := by
  induction n using Nat.strongRecOn with
  | _ n ih =>
    by_cases h10 : n < 10
    · refine ⟨_, _, dec_small n h10, fun e => ?_⟩
      have e2 := dig_nat n h10
      rw [e] at e2
      have : (48 : UInt8).toNat = 48 := rfl
      omega
    · obtain ⟨c, l, hc, hne⟩ := ih (n / 10) (by omega) (by omega)
      exact ⟨c, l ++ [UInt8.ofNat (48 + n % 10)], by rw [dec_big n h10, hc]; rfl, hne⟩
theorem dec_good (n : Nat) : numBad (Lib.decDigits n) = false := by
  by_cases h : 1 ≤ n
  · obtain ⟨c, l, hc, hne⟩ := dec_head n h
    rw [hc]; simp [numBad, hne]
  · obtain rfl : n = 0 := by omega
    rw [dec_small 0 (by omega)]; rfl
theorem dec_ok (n : Nat) : numOk (Lib.decDigits n) = true := numOk_good (dec_good n) (dec_all n)
theorem dec_val (n : Nat) (h : n ≤ 1099511627776) : numVal (Lib.decDigits n) = n := by
  induction n using Nat.strongRecOn with
  | _ n ih =>
    by_cases h10 : n < 10
    · have e := dig_nat n h10
      rw [dec_small n h10]
      show min (10 * 0 + (((UInt8.ofNat (48 + n)).toNat : Int) - 48)) 1099511627776 = n
      omega
    · have e := dig_nat (n % 10) (by omega)
      rw [dec_big n h10, numVal_snoc, ih (n / 10) (by omega) (by omega)]
      omega
theorem dec_numN (n : Nat) (h : n ≤ 1099511627776) : numN (Lib.decDigits n) = n := by
  unfold numN; rw [if_pos (dec_ok n), dec_val n h]

theorem no_comma {l : List UInt8} (h : l.all isDig = true) (t : List UInt8) (i : Nat) (hi : i < l.length) : Lib.occAt (l ++ t) [44, 32] i = false := by
  unfold Lib.occAt
  rw [List.drop_append_of_le_length (by omega), List.drop_eq_getElem_cons hi]
  have hd : isDig l[i] = true := List.all_eq_true.1 h _ (List.getElem_mem _)
  have hne : ¬ (44 : UInt8) = l[i] := by
    intro e; rw [← e] at hd; exact absurd hd (by decide)
  show ((44 : UInt8) == l[i] && _) = false
  rw [beq_eq_false_iff_ne.2 hne]; rfl

theorem cut_text {A T : List UInt8} (h : A.all isDig = true) : Lib.cut (A ++ [44, 32] ++ T) [44, 32] = (A, T, true) := by
  have hidx : Lib.index (A ++ [44, 32] ++ T) [44, 32] = (A.length : Int) := by
    refine Lib.index_hit (fun i hi => ?_) (by simp) ?_
    · rw [List.append_assoc]; exact no_comma h _ i hi
    · unfold Lib.occAt; rw [List.append_assoc, List.drop_left]; simp [List.isPrefixOf]
  unfold Lib.cut
  rw [hidx, if_pos (by omega), Int.toNat_natCast]
  refine Prod.ext ?_ (Prod.ext ?_ rfl)
  · rw [List.append_assoc]; exact List.take_left
  · show (A ++ [44, 32] ++ T).drop (A.length + 2) = T
    rw [show A.length + 2 = (A ++ [44, 32]).length by simp]; exact List.drop_left

theorem head_text (A T : List UInt8) : cutHead ([91] ++ A ++ [44, 32] ++ T ++ [41]) = A ++ [44, 32] ++ T ++ [41] ∧ cutOpn ([91] ++ A ++ [44, 32] ++ T ++ [41]) = true := by
  have h : Lib.hasPrefix ([91] ++ A ++ [44, 32] ++ T ++ [41]) [91] = true := by simp [Lib.hasPrefix, List.isPrefixOf]
  refine ⟨?_, h⟩
  unfold cutHead Lib.trimPrefix
  rw [if_pos h]; simp
theorem tail_text (A T : List UInt8) : cutTail ([91] ++ A ++ [44, 32] ++ T ++ [41]) = A ++ [44, 32] ++ T ∧ cutCls ([91] ++ A ++ [44, 32] ++ T ++ [41]) = true := by
  have h : Lib.hasSuffix (A ++ [44, 32] ++ T ++ [41]) [41] = true := by
    unfold Lib.hasSuffix; rw [List.isSuffixOf_iff_suffix]; exact List.suffix_append _ _
  unfold cutTail cutCls
  rw [(head_text A T).1]
  refine ⟨?_, h⟩
  unfold Lib.trimSuffix
  rw [if_pos h]
  have e : (A ++ [44, 32] ++ T ++ [41]).length - ([41] : List UInt8).length = (A ++ [44, 32] ++ T).length := by simp
  rw [e]; exact List.take_left

theorem parse_text {a b : Int} (h : vld a b = true) : parseP (textP a b) = (a, b, 0) := by
  have hv : 0 ≤ a ∧ a < b ∧ b ≤ 1099511627776 := by simpa [vld, and_assoc] using h
  obtain ⟨n, rfl⟩ := Int.eq_ofNat_of_zero_le hv.1
  obtain ⟨m, rfl⟩ := Int.eq_ofNat_of_zero_le (show 0 ≤ b by omega)
  have key : ∀ T : List UInt8, cutWhole ([91] ++ Lib.decDigits n ++ [44, 32] ++ T ++ [41]) = true ∧ cutFirst ([91] ++ Lib.decDigits n ++ [44, 32] ++ T ++ [41]) = Lib.decDigits n ∧ cutSecond ([91] ++ Lib.decDigits n ++ [44, 32] ++ T ++ [41]) = T := by
    intro T
    have hc := cut_text (T := T) (dec_all n)
    unfold cutWhole cutDvd cutFirst cutSecond
    rw [(tail_text _ T).1, hc, (head_text _ T).2, (tail_text _ T).2]
    exact ⟨rfl, rfl, rfl⟩
  unfold textP
  rw [if_pos h, itoa_nat]
  by_cases hF : (m : Int) = 1099511627776
  · rw [if_pos hF]
    obtain ⟨h1, h2, h3⟩ := key sForever
    unfold parseP
    rw [h1, h2, h3, if_neg (by decide), if_neg (by rw [dec_ok]; decide), if_pos rfl, dec_numN n (by omega)]
    unfold chk; rw [← hF, if_pos h]
  · rw [if_neg hF, itoa_nat]
    obtain ⟨h1, h2, h3⟩ := key (Lib.decDigits m)
    have hne : ¬ Lib.decDigits m = sForever := by
      intro e; have := dec_all m; rw [e] at this; exact absurd this (by decide)
    unfold parseP
    rw [h1, h2, h3, if_neg (by decide), if_neg (by rw [dec_ok]; decide), if_neg hne, if_neg (by rw [dec_ok]; decide), dec_numN n (by omega), dec_numN m (by omega), if_neg hF]
    unfold chk; rw [if_pos h]

theorem text_len {a b : Int} (h : vld a b = true) (ha : (Lib.itoa a).length ≤ 21) (hb : (Lib.itoa b).length ≤ 21) : (textP a b).length ≤ 60 := by
  unfold textP; rw [if_pos h]
  have hs : sForever.length = 7 := rfl
  split <;> simp only [List.length_append, List.length_cons, List.length_nil] <;> omega
end Go.Proofs.Ytceohfjmjdnelaa.Va
/-
  Pure mathematics of values: printable texts, quoting and its way back, replacing all. Conditions: none.
-/
namespace Go.Proofs.Ytceohfjmjdnelaa.Va
set_option maxRecDepth 100000

/-! ### replacing all -/
def rAl (old new : List UInt8) (s : List UInt8) : List UInt8 := Lib.replaceK old new (Lib.count s old) s
theorem index_cons_hit {s old : List UInt8} (h : old.isPrefixOf s = true) : Lib.index s old = 0 := by
  cases s with
  | nil =>
    unfold Lib.index
    cases old with
    | nil => rfl
    | cons a l => cases h
  | cons b t => unfold Lib.index; rw [if_pos h]
theorem rAl_hit {old new s : List UInt8} (hne : old ≠ []) (h : old.isPrefixOf s = true) : rAl old new s = new ++ rAl old new (s.drop old.length) := by
  have h0 : Lib.index s old = ((0 : Nat) : Int) := index_cons_hit h
  unfold rAl
  rw [Lib.count_hit hne h0, Nat.zero_add, Nat.add_comm 1, Lib.replaceK_hit old new _ s 0 h0]
  simp
theorem rAl_miss {old new : List UInt8} (hne : old ≠ []) (b : UInt8) (t : List UInt8) (h : old.isPrefixOf (b :: t) = false) : rAl old new (b :: t) = b :: rAl old new t := by
  rcases Lib.index_spec t old with ⟨h1, _⟩ | ⟨i, h1, _, _, _⟩
  · have h2 : Lib.index (b :: t) old = -1 := by unfold Lib.index; rw [h, h1]; rfl
    unfold rAl
    rw [Lib.count_miss h1, Lib.count_miss h2]
    rfl
  · have h2 : Lib.index (b :: t) old = ((i + 1 : Nat) : Int) := by
      unfold Lib.index
      rw [h, h1]
      have : ((i : Int) == -1) = false := by rw [beq_eq_false_iff_ne]; omega
      simp [this]
    have e : (b :: t).drop (i + 1 + old.length) = t.drop (i + old.length) := by rw [Nat.add_right_comm]; rfl
    unfold rAl
    rw [Lib.count_hit hne h1, Lib.count_hit hne h2, e, Nat.add_comm 1, Lib.replaceK_hit old new _ t i h1, Lib.replaceK_hit old new _ (b :: t) (i + 1) h2, e]
    rfl
theorem rAl_nil {old new : List UInt8} (hne : old ≠ []) : rAl old new [] = [] := by
  have h1 : Lib.index [] old = -1 := by
    unfold Lib.index
    cases old with
    | nil => exact absurd rfl hne
    | cons a l => rfl
  unfold rAl
  rw [Lib.count_miss h1]
  rfl
theorem replaceAll_rAl (s old new : List UInt8) (h : old ≠ new) : Lib.replaceAll s old new = rAl old new s := by
  unfold Lib.replaceAll Lib.replace rAl Lib.replaceNum
  rw [if_neg (by simpa using h), if_pos (.inl (by omega))]

/-! ### quoting -/
/-- Every quote twice. -/
def dbl : List UInt8 → List UInt8
  | [] => []
  | b :: t => if b = 39 then 39 :: 39 :: dbl t else b :: dbl t
theorem rAl_dbl : ∀ s : List UInt8, rAl [39] [39, 39] s = dbl s
  | [] => rAl_nil (by simp)
  | b :: t => by
    by_cases h : b = 39
    · subst h
      rw [rAl_hit (by simp) (by rfl)]
      simp only [List.length_singleton, List.drop_succ_cons, List.drop_zero, dbl, if_true]
      rw [rAl_dbl t]; rfl
    · rw [rAl_miss (by simp) b t (by simp [List.isPrefixOf, Ne.symm h]), rAl_dbl t, dbl, if_neg h]
theorem all_dbl (s : List UInt8) : Lib.replaceAll s [39] [39, 39] = dbl s := by
  rw [replaceAll_rAl _ _ _ (by decide), rAl_dbl]
/-- What is inside a literal, every two quotes as one. -/
theorem rAl_und : ∀ s : List UInt8, rAl [39, 39] [39] (dbl s) = s
  | [] => rAl_nil (by simp)
  | b :: t => by
    by_cases h : b = 39
    · subst h
      rw [dbl, if_pos rfl, rAl_hit (by simp) (by rfl)]
      simp only [List.length_cons, List.length_nil, Nat.zero_add, List.drop_succ_cons, List.drop_zero]
      rw [rAl_und t]; rfl
    · rw [dbl, if_neg h, rAl_miss (by simp) b _ (by simp [List.isPrefixOf, Ne.symm h]), rAl_und t]
theorem all_und (s : List UInt8) : Lib.replaceAll (dbl s) [39, 39] [39] = s := by
  rw [replaceAll_rAl _ _ _ (by decide), rAl_und]
theorem dbl_app : ∀ s t : List UInt8, dbl (s ++ t) = dbl s ++ dbl t
  | [], t => rfl
  | b :: s, t => by
    simp only [List.cons_append, dbl]
    split <;> simp [dbl_app s t]
theorem dbl_len : ∀ s : List UInt8, (dbl s).length ≤ 2 * s.length ∧ s.length ≤ (dbl s).length
  | [] => ⟨Nat.le_refl _, Nat.le_refl _⟩
  | b :: s => by
    have := dbl_len s
    unfold dbl
    split <;> simp only [List.length_cons] <;> omega
theorem rAl_len (s : List UInt8) : ∀ n, s.length ≤ n → (rAl [39, 39] [39] s).length ≤ s.length := by
  intro n
  induction n generalizing s with
  | zero => intro h; have : s = [] := List.eq_nil_of_length_eq_zero (by omega); subst this; rw [rAl_nil (by simp)]; exact Nat.le_refl _
  | succ n ih =>
    intro h
    cases s with
    | nil => rw [rAl_nil (by simp)]; exact Nat.le_refl _
    | cons b t =>
      cases hp : ([39, 39] : List UInt8).isPrefixOf (b :: t)
      · rw [rAl_miss (by simp) b t hp]
        have := ih t (by simp only [List.length_cons] at h; omega)
        simp only [List.length_cons]; omega
      · rw [rAl_hit (by simp) hp]
        have h2 : ((b :: t).drop 2).length ≤ n := by rw [List.length_drop]; simp only [List.length_cons] at h ⊢; omega
        have := ih ((b :: t).drop 2) h2
        rw [show ([39, 39] : List UInt8).length = 2 from rfl, List.length_append]
        have h3 : 2 ≤ (b :: t).length := by
          cases t with
          | nil => simp [List.isPrefixOf] at hp
          | cons c t => simp
        rw [List.length_drop] at this
        rw [show ([39] : List UInt8).length = 1 from rfl]
        omega
theorem und_len (s : List UInt8) : (Lib.replaceAll s [39, 39] [39]).length ≤ s.length := by
  rw [replaceAll_rAl _ _ _ (by decide)]; exact rAl_len s _ (Nat.le_refl _)
/-- A text between quotes. -/
def quo (s : List UInt8) : List UInt8 := 39 :: dbl s ++ [39]
theorem quo_inj {s t : List UInt8} (h : quo s = quo t) : s = t := by
  have h1 : dbl s = dbl t := by
    unfold quo at h
    injection h with _ h
    exact List.append_cancel_right h
  rw [← all_und s, ← all_und t, h1]
/-- What the program takes for the text. -/
def innT (s : List UInt8) : List UInt8 := Lib.replaceAll (Lib.trimSuffix (Lib.trimPrefix s [39]) [39]) [39, 39] [39]
theorem inn_quo (s : List UInt8) : innT (quo s) = s := by
  unfold innT quo
  have h1 : Lib.trimPrefix (39 :: dbl s ++ [39]) [39] = dbl s ++ [39] := by
    unfold Lib.trimPrefix Lib.hasPrefix
    rw [if_pos (by simp [List.isPrefixOf])]
    simp
  have h2 : Lib.trimSuffix (dbl s ++ [39]) [39] = dbl s := by
    unfold Lib.trimSuffix Lib.hasSuffix
    rw [if_pos (by simp)]
    simp
  rw [h1, h2, all_und]

/-! ### printable -/
def prnL (l : List UInt8) : Bool := l.all fun b => decide (32 ≤ b.toNat) && decide (b.toNat ≤ 126)
def badR (x : Nat) : Bool := decide (x < 32) || decide (126 < x)
theorem badR_decode (n b0 b1 b2 b3 : Nat) (h : ¬ (32 ≤ b0 ∧ b0 ≤ 126)) : badR (Lib.decodeN n b0 b1 b2 b3).1 = true := by
  unfold badR
  simp only [Bool.or_eq_true, decide_eq_true_eq]
  unfold Lib.decodeN
  repeat' split
  all_goals (dsimp only; omega)
theorem goodR_decode (n b0 b1 b2 b3 : Nat) (h : 32 ≤ b0 ∧ b0 ≤ 126) : Lib.decodeN n b0 b1 b2 b3 = (b0, 1) ∧ badR b0 = false := by
  unfold badR Lib.decodeN
  rw [if_pos (by omega)]
  refine ⟨rfl, ?_⟩
  rw [decide_eq_false (by omega), decide_eq_false (by omega)]; rfl
theorem get_list (s : ByteArray) (i : Nat) (h : i < s.size) : s.get! i = s[i] := by
  show s.data[i]! = s.data[i]
  exact getElem!_pos s.data i h
theorem idx_prn_from (s : ByteArray) : ∀ (f pos : Nat), s.size ≤ pos + f → (decide (0 ≤ Lib.idxFuncFrom badR true s f pos) = !prnL (s.data.toList.drop pos))
  | 0, pos, h => by
    rw [List.drop_eq_nil_of_le (by rw [← Lib.size_eq]; omega)]
    rfl
  | f + 1, pos, h => by
    unfold Lib.idxFuncFrom
    by_cases hp : pos < s.size
    · rw [if_pos hp]
      have hd : s.data.toList.drop pos = s[pos] :: s.data.toList.drop (pos + 1) := List.drop_eq_getElem_cons (by rw [← Lib.size_eq]; exact hp)
      have hg : (s.get! pos).toNat = s[pos].toNat := by rw [get_list s pos hp]
      rw [Lib.decode_at, hg, hd]
      by_cases hb : 32 ≤ s[pos].toNat ∧ s[pos].toNat ≤ 126
      · obtain ⟨e, e2⟩ := goodR_decode (s.size - pos) s[pos].toNat (s.get! (pos + 1)).toNat (s.get! (pos + 2)).toNat (s.get! (pos + 3)).toNat hb
        rw [e]
        dsimp only
        rw [e2, if_neg (by simp), idx_prn_from s f (pos + 1) (by omega)]
        unfold prnL
        rw [List.all_cons, decide_eq_true hb.1, decide_eq_true hb.2]
        rfl
      · rw [badR_decode _ _ _ _ _ hb, if_pos rfl, decide_eq_true (by omega)]
        unfold prnL
        rw [List.all_cons]
        have : (decide (32 ≤ s[pos].toNat) && decide (s[pos].toNat ≤ 126)) = false := by
          rw [Bool.eq_false_iff]; intro e; simp only [Bool.and_eq_true, decide_eq_true_eq] at e; exact hb e
        rw [this]; rfl
    · rw [if_neg hp, List.drop_eq_nil_of_le (by rw [← Lib.size_eq]; omega)]
      rfl
theorem idx_prn (s : ByteArray) : decide (0 ≤ Lib.idxFunc badR true s) = !prnL s.data.toList := idx_prn_from s s.size 0 (by omega)
end Go.Proofs.Ytceohfjmjdnelaa.Va
/-
  Pure mathematics of numbers in literals: what digits spell, which numbers are in range, and the way back. Conditions: none.
-/
namespace Go.Proofs.Ytceohfjmjdnelaa.Va
set_option maxRecDepth 100000

/-- What digits spell. -/
def decA (a : Nat) (l : List UInt8) : Nat := l.foldl (fun n c => n * 10 + (c.toNat - 48)) a
def decV (l : List UInt8) : Nat := decA 0 l
theorem decA_cons (a : Nat) (c : UInt8) (l : List UInt8) : decA a (c :: l) = decA (a * 10 + (c.toNat - 48)) l := by unfold decA; rw [List.foldl_cons]
theorem decA_le (l : List UInt8) : ∀ a : Nat, a ≤ decA a l := by
  induction l with
  | nil => intro a; exact Nat.le_refl _
  | cons c l ih =>
    intro a
    rw [decA_cons]
    have := ih (a * 10 + (c.toNat - 48))
    omega
theorem decV_snoc (l : List UInt8) (c : UInt8) : decV (l ++ [c]) = decV l * 10 + (c.toNat - 48) := by
  unfold decV decA; rw [List.foldl_append]; rfl
theorem isDig_nat2 {c : UInt8} (h : isDig c = true) : 48 ≤ c.toNat ∧ c.toNat ≤ 57 := by
  unfold isDig at h; simp only [Bool.and_eq_true, decide_eq_true_eq] at h; omega
/-- The end of strconv.Atoi on digits. -/
theorem parseU (l : List UInt8) : ∀ a, l.all isDig = true → Lib.parseUint10 a l = .ok (decA a l) ∧ decA a l < 18446744073709551616 ∨ Lib.parseUint10 a l = .range ∧ 18446744073709551616 ≤ decA a l ∨ ¬ a < 18446744073709551616 := by
  induction l with
  | nil =>
    intro a _
    by_cases h : a < 18446744073709551616
    · exact .inl ⟨rfl, h⟩
    · exact .inr (.inr h)
  | cons c l ih =>
    intro a hl
    rw [List.all_cons, Bool.and_eq_true] at hl
    obtain ⟨h1, h2⟩ := isDig_nat2 hl.1
    by_cases ha : a < 18446744073709551616
    · unfold Lib.parseUint10
      rw [if_pos ⟨h1, h2⟩, decA_cons]
      have hle := decA_le l (a * 10 + (c.toNat - 48))
      by_cases h3 : 1844674407370955162 ≤ a
      · rw [if_pos h3]; exact .inr (.inl ⟨rfl, by omega⟩)
      · rw [if_neg h3]
        by_cases h4 : 18446744073709551616 ≤ a * 10 + (c.toNat - 48)
        · rw [if_pos h4]; exact .inr (.inl ⟨rfl, by omega⟩)
        · rw [if_neg h4]
          rcases ih (a * 10 + (c.toNat - 48)) hl.2 with h | h | h
          · exact .inl h
          · exact .inr (.inl h)
          · omega
    · exact .inr (.inr ha)
/-- A sign and digits. -/
def negH (s : List UInt8) : Bool := s.head? == some 45
def absL (s : List UInt8) : List UInt8 := if negH s then s.tail else s
def numG (s : List UInt8) : Bool := numOk (absL s) && !(negH s && absL s == [48])
def sgnV (s : List UInt8) : Int := if negH s then -(decV (absL s) : Int) else decV (absL s)
theorem absL_prefix (s : List UInt8) : Lib.trimPrefix s [45] = absL s := by
  unfold Lib.trimPrefix Lib.hasPrefix absL negH
  cases s with
  | nil => rfl
  | cons b t =>
    by_cases h : b = 45
    · subst h; simp [List.isPrefixOf]
    · have h2 : (45 : UInt8) ≠ b := Ne.symm h
      simp [List.isPrefixOf, h, h2]
theorem numOk_all' {A : List UInt8} (h : numOk A = true) : A.all isDig = true := by unfold numOk at h; rw [Bool.and_eq_true] at h; exact h.2
theorem numOk_bad' {A : List UInt8} (h : numOk A = true) : numBad A = false := by
  unfold numOk at h; rw [Bool.and_eq_true] at h; simpa using h.1
theorem numOk_ne' {A : List UInt8} (h : numOk A = true) : A ≠ [] := by
  intro e; subst e; cases h
/-- How Atoi ends on what is accepted as a number. -/
theorem atoi_num {s : List UInt8} (h : numG s = true) : (Lib.atoiAll s = .ok (sgnV s) ∧ -9223372036854775808 ≤ sgnV s ∧ sgnV s ≤ 9223372036854775807) ∨ (Lib.atoiAll s = .range ∧ (sgnV s < -9223372036854775808 ∨ 9223372036854775807 < sgnV s)) := by
  unfold numG at h
  rw [Bool.and_eq_true] at h
  have hd := numOk_all' h.1
  have hne := numOk_ne' h.1
  clear h
  cases s with
  | nil => exact absurd rfl hne
  | cons c r =>
    by_cases hc : c = 45
    · subst hc
      have hn : negH (45 :: r) = true := rfl
      have ha : absL (45 :: r) = r := rfl
      rw [ha] at hd hne
      unfold Lib.atoiAll sgnV
      rw [hn, ha, if_pos rfl]
      dsimp only
      have e1 : ((45 : UInt8).toNat = 43 ∨ (45 : UInt8).toNat = 45) := .inr rfl
      rw [if_pos e1]
      unfold Lib.parseMag
      rw [if_neg hne]
      have e45 : ((45 : UInt8).toNat = 45) := rfl
      unfold decV
      rcases parseU r 0 hd with ⟨h1, h2⟩ | ⟨h1, h2⟩ | h
      · rw [h1]
        dsimp only
        rw [if_neg (by simp), if_pos e45]
        by_cases h5 : 9223372036854775808 < decA 0 r
        · rw [if_pos ⟨e45, h5⟩]; exact .inr ⟨rfl, .inl (by omega)⟩
        · rw [if_neg (fun h => h5 h.2)]; exact .inl ⟨rfl, by omega, by omega⟩
      · rw [h1]; exact .inr ⟨rfl, .inl (by omega)⟩
      · omega
    · have hn : negH (c :: r) = false := by simp [negH, hc]
      have ha : absL (c :: r) = c :: r := by unfold absL; rw [hn]; rfl
      rw [ha] at hd hne
      unfold Lib.atoiAll sgnV
      rw [hn, ha]
      dsimp only
      have hd0 := hd
      rw [List.all_cons, Bool.and_eq_true] at hd0
      obtain ⟨k1, k2⟩ := isDig_nat2 hd0.1
      have e1 : ¬ (c.toNat = 43 ∨ c.toNat = 45) := by omega
      have e2 : ¬ c.toNat = 45 := by omega
      rw [if_neg e1]
      unfold Lib.parseMag
      rw [if_neg hne]
      unfold decV
      rcases parseU (c :: r) 0 hd with ⟨h1, h2⟩ | ⟨h1, h2⟩ | h
      · rw [h1]
        dsimp only
        by_cases h5 : 9223372036854775808 ≤ decA 0 (c :: r)
        · rw [if_pos ⟨e2, h5⟩]; exact .inr ⟨rfl, .inr (by simp <;> omega)⟩
        · rw [if_neg (fun h => h5 h.2), if_neg (fun h => e2 h.1), if_neg e2]
          exact .inl ⟨rfl, by simp <;> omega, by simp <;> omega⟩
      · rw [h1]; exact .inr ⟨rfl, .inr (by simp <;> omega)⟩
      · omega
/-! ### the reference's number -/
def satV (l : List UInt8) : Nat := min (decV l) 1125899906842625
theorem satV_snoc (l : List UInt8) (c : UInt8) : satV (l ++ [c]) = min (satV l * 10 + (c.toNat - 48)) 1125899906842625 := by
  unfold satV
  rw [decV_snoc]
  omega
/-! ### the way back -/
theorem decV_dec (n : Nat) : decV (Lib.decDigits n) = n := by
  induction n using Nat.strongRecOn with
  | _ n ih =>
    by_cases h10 : n < 10
    · have e := dig_nat n h10
      rw [dec_small n h10]
      show 0 * 10 + ((UInt8.ofNat (48 + n)).toNat - 48) = n
      omega
    · have e := dig_nat (n % 10) (by omega)
      rw [dec_big n h10, decV_snoc, ih (n / 10) (by omega)]
      omega
theorem decV_back : ∀ (n : Nat) (A : List UInt8), A.length = n → numOk A = true → Lib.decDigits (decV A) = A
  | 0, A, hn, hA => absurd (List.eq_nil_of_length_eq_zero hn) (numOk_ne' hA)
  | n + 1, A, hn, hA => by
    obtain ⟨A', c, rfl⟩ : ∃ A' c, A = A' ++ [c] := ⟨A.dropLast, A.getLast (numOk_ne' hA), (List.dropLast_concat_getLast _).symm⟩
    have hall := numOk_all' hA
    rw [List.all_append, Bool.and_eq_true] at hall
    obtain ⟨ha', hc⟩ := hall
    have hc' : isDig c = true := by simpa using hc
    have hcd := isDig_nat2 hc'
    rw [decV_snoc]
    have hcc : UInt8.ofNat (48 + (c.toNat - 48)) = c := by
      rw [show 48 + (c.toNat - 48) = c.toNat by omega]; exact UInt8.ofNat_toNat
    by_cases hne : A' = []
    · subst hne
      have e : decV [] * 10 + (c.toNat - 48) = c.toNat - 48 := by
        show 0 * 10 + (c.toNat - 48) = _; omega
      rw [e, dec_small _ (by omega), hcc]; rfl
    · have hbad : numBad A' = false ∧ A' ≠ [48] := by
        have h0 := numOk_bad' hA
        obtain ⟨d, D, rfl⟩ : ∃ d D, A' = d :: D := by cases A' with
          | nil => exact absurd rfl hne
          | cons d D => exact ⟨d, D, rfl⟩
        unfold numBad at h0 ⊢
        simp only [List.cons_append, List.isEmpty_cons, Bool.false_or, List.head?_cons] at h0 ⊢
        cases hd : (some d == some (48 : UInt8))
        · refine ⟨rfl, fun e => ?_⟩
          injection e with e1 _; subst e1; simp at hd
        · rw [hd] at h0
          have : d = 48 := by simpa using hd
          subst this
          simp at h0
      have hA' : numOk A' = true := numOk_good hbad.1 ha'
      have ih := decV_back n A' (by simp at hn; omega) hA'
      have hpos : 1 ≤ decV A' := by
        rcases Nat.lt_or_ge (decV A') 1 with h | h
        · exfalso
          have h0 : decV A' = 0 := by omega
          rw [h0] at ih
          exact hbad.2 (by rw [← ih]; exact dec_small 0 (by omega))
        · exact h
      have e1 : (decV A' * 10 + (c.toNat - 48)) / 10 = decV A' := by omega
      have e2 : (decV A' * 10 + (c.toNat - 48)) % 10 = c.toNat - 48 := by omega
      rw [dec_big _ (by omega), e1, e2, ih, hcc]
/-- What is accepted is the text of its number. -/
theorem itoa_num {s : List UInt8} (h : numG s = true) : Lib.itoa (sgnV s) = s := by
  unfold numG at h
  rw [Bool.and_eq_true] at h
  have hb := decV_back _ _ rfl h.1
  have h2 := h.2
  unfold sgnV absL at *
  cases hn : negH s
  · rw [hn] at hb
    simp only [Bool.false_eq_true, if_false] at hb ⊢
    rw [itoa_nat, hb]
  · rw [hn] at hb h2
    simp only [if_true, Bool.true_and] at hb h2 ⊢
    have hs : s = 45 :: s.tail := by
      unfold negH at hn
      cases s with
      | nil => cases hn
      | cons b t => simp at hn; subst hn; rfl
    have hpos : 1 ≤ decV s.tail := by
      rcases Nat.lt_or_ge (decV s.tail) 1 with h | h
      · exfalso
        have h0 : decV s.tail = 0 := by omega
        rw [h0] at hb
        have e : s.tail = [48] := by rw [← hb]; exact dec_small 0 (by omega)
        rw [e] at h2
        simp at h2
      · exact h
    unfold Lib.itoa
    rw [if_pos (by omega), show (-(decV s.tail : Int)).natAbs = decV s.tail by omega, hb]
    exact hs.symm
theorem num_itoa (n : Int) : numG (Lib.itoa n) = true ∧ sgnV (Lib.itoa n) = n := by
  unfold Lib.itoa
  by_cases h : n < 0
  · rw [if_pos h]
    have hn : negH (45 :: Lib.decDigits n.natAbs) = true := rfl
    have ha : absL (45 :: Lib.decDigits n.natAbs) = Lib.decDigits n.natAbs := rfl
    refine ⟨?_, ?_⟩
    · unfold numG
      rw [hn, ha, dec_ok]
      obtain ⟨c, l, e, hc⟩ := dec_head n.natAbs (by omega)
      rw [e]
      simp [hc]
    · unfold sgnV
      rw [hn, ha, if_pos rfl, decV_dec]
      omega
  · rw [if_neg h]
    have hn : negH (Lib.decDigits n.toNat) = false := by
      have := dec_all n.toNat
      unfold negH
      cases e : Lib.decDigits n.toNat with
      | nil => rfl
      | cons c l =>
        rw [e, List.all_cons, Bool.and_eq_true] at this
        have := isDig_nat2 this.1
        have hc : c ≠ 45 := by intro h; subst h; exact absurd this.1 (by decide)
        simp [hc]
    have ha : absL (Lib.decDigits n.toNat) = Lib.decDigits n.toNat := by unfold absL; rw [hn]; rfl
    refine ⟨?_, ?_⟩
    · unfold numG
      rw [hn, ha, dec_ok]
      rfl
    · unfold sgnV
      rw [hn, ha, decV_dec]
      simp; omega
/-! ### the program's test -/
def digs : List UInt8 := [48, 49, 50, 51, 52, 53, 54, 55, 56, 57]
theorem digs_mem (c : UInt8) : digs.contains c = isDig c := by
  have h : ∀ i : Fin 256, digs.contains (UInt8.ofNat i.val) = isDig (UInt8.ofNat i.val) := by decide +kernel
  have := h ⟨c.toNat, UInt8.toNat_lt c⟩
  simpa using this
theorem trimR_nil (l : List UInt8) : Lib.trimRightS l digs = [] ↔ l.all isDig = true := by
  unfold Lib.trimRightS
  rw [List.reverse_eq_nil_iff]
  have e : (fun c => digs.contains c) = isDig := funext digs_mem
  rw [show (List.dropWhile (fun x => digs.contains x) l.reverse) = List.dropWhile isDig l.reverse by rw [← e]]
  rw [← List.all_reverse]
  generalize l.reverse = m
  induction m with
  | nil => simp
  | cons b m ih =>
    rw [List.dropWhile_cons, List.all_cons]
    cases h : isDig b
    · simp
    · simpa using ih
theorem trimS_nil (l : List UInt8) : (Lib.trimS l digs == []) = l.all isDig := by
  have e : (fun c => digs.contains c) = isDig := funext digs_mem
  rw [Bool.eq_iff_iff, beq_iff_eq, ← trimR_nil]
  constructor
  · intro h
    unfold Lib.trimS Lib.trimLeftS at h
    rw [show (List.dropWhile (fun x => digs.contains x) (Lib.trimRightS l digs)) = List.dropWhile isDig (Lib.trimRightS l digs) by rw [← e]] at h
    generalize hm : Lib.trimRightS l digs = m at *
    cases m with
    | nil => rfl
    | cons b t =>
      exfalso
      have hall : (b :: t).all isDig = true := by
        clear hm
        generalize (b :: t) = m at h
        induction m with
        | nil => rfl
        | cons x m ih =>
          rw [List.dropWhile_cons] at h
          cases hx : isDig x
          · rw [hx] at h; cases h
          · rw [hx] at h
            rw [List.all_cons, hx]; exact ih h
      -- the last byte of what TrimRight leaves is no digit
      have hne : (b :: t) ≠ [] := by simp
      unfold Lib.trimRightS at hm
      rw [show (List.dropWhile (fun x => digs.contains x) l.reverse) = List.dropWhile isDig l.reverse by rw [← e]] at hm
      cases hd : List.dropWhile isDig l.reverse with
      | nil => rw [hd] at hm; cases hm
      | cons x r =>
        have hx : isDig x = false := by
          have := List.head?_dropWhile_not isDig l.reverse
          rw [hd] at this
          simpa using this
        rw [hd, List.reverse_cons] at hm
        rw [← hm, List.all_append, List.all_cons, hx] at hall
        simp at hall
  · intro h
    unfold Lib.trimS
    rw [h]
    rfl
theorem numG_prog (s : List UInt8) : numG s = if Lib.hasPrefix (absL s) [48] then s == [48] else (!(absL s).isEmpty && (Lib.trimS (absL s) digs == [])) := by
  rw [trimS_nil]
  unfold numG Lib.hasPrefix
  cases hp : ([48] : List UInt8).isPrefixOf (absL s)
  · simp only [Bool.false_eq_true, if_false]
    have h1 : numBad (absL s) = (absL s).isEmpty := by
      unfold numBad
      cases h : absL s with
      | nil => rfl
      | cons b t =>
        rw [h] at hp
        have : b ≠ 48 := by intro e; subst e; simp [List.isPrefixOf] at hp
        simp [this]
    have h2 : (absL s == [48]) = false := by
      rw [beq_eq_false_iff_ne]; intro e; rw [e] at hp; cases hp
    unfold numOk
    rw [h1, h2]
    simp
  · rw [if_pos rfl]
    obtain ⟨t, ht⟩ : ∃ t, absL s = 48 :: t := by
      cases h : absL s with
      | nil => rw [h] at hp; cases hp
      | cons b t =>
        rw [h] at hp
        have : 48 = b := by simpa [List.isPrefixOf] using hp
        exact ⟨t, by rw [this]⟩
    rw [ht]
    cases hn : negH s
    · have e : s = 48 :: t := by rw [← ht]; unfold absL; rw [hn]; rfl
      rw [e]
      cases t with
      | nil => rfl
      | cons b t => simp [numOk, numBad]
    · have hs : s ≠ [48] := by intro e; rw [e] at hn; cases hn
      have hs2 : (s == [48]) = false := by rw [beq_eq_false_iff_ne]; exact hs
      rw [hs2]
      cases t with
      | nil => rfl
      | cons b t => simp [numOk, numBad]
end Go.Proofs.Ytceohfjmjdnelaa.Va
/-
  Truth values of the program and of the reference: what each function answers, in every world. Conditions: none.
-/
namespace Go.Proofs.Ytceohfjmjdnelaa.Va
set_option maxRecDepth 100000
open Go.RowKit

def vnot (a : Int) : Int := if a = 0 then 2 else if a = 2 then 0 else 1
def vand (a b : Int) : Int := if a = 0 ∨ b = 0 then 0 else if a = 2 ∧ b = 2 then 2 else 1
def vor (a b : Int) : Int := if a = 2 ∨ b = 2 then 2 else if a = 0 ∧ b = 0 then 0 else 1
/-- What combined answers for two truth values. -/
def cmbT (d a b : Int) : Int := if a = d ∨ b = d then d else if a = vnot d ∧ b = vnot d then vnot d else 1
theorem cmb_and (a b : Int) : cmbT 0 a b = vand a b := by
  unfold cmbT vand vnot
  simp
theorem cmb_or (a b : Int) : cmbT 2 a b = vor a b := by
  unfold cmbT vor vnot
  simp
theorem two_new (w : World) (x y : Value) (t : TypeId) : Below w.heap.size w (w.alloc (.cells #[x, y] t)) ∧ w.heap.size < (w.alloc (.cells #[x, y] t)).heap.size ∧ (w.alloc (.cells #[x, y] t)).cell? ⟨w.heap.size, 0, none⟩ = some x ∧ (w.alloc (.cells #[x, y] t)).cell? ⟨w.heap.size, 1, none⟩ = some y := by
  refine ⟨(Below.refl _ _).alloc (Nat.le_refl _) _, by rw [World.size_alloc]; omega, ?_, ?_⟩
  · rw [cell_of_row _ _ 0 #[x, y] t (0, 0) (heap_alloc_new w _)]; rfl
  · rw [cell_of_row _ _ 1 #[x, y] t (0, 0) (heap_alloc_new w _)]; rfl
end Go.Proofs.Ytceohfjmjdnelaa.Va
/-
  Values: boxes that hold one, printable texts, validity: what each function answers, in every world. Conditions: none.
-/
namespace Go.Proofs.Ytceohfjmjdnelaa.Va
set_option maxRecDepth 100000
open Go.RowKit

/-- A value as the program has it. -/
def vV (k n : Int) (s : ByteArray) : Value := .agg #[.int .i64 k, .int .i64 n, .string s]
theorem load_val {w : World} {g : Nat} {x y z : Value} (h : Own w g 45 #[x, y, z]) : (loadVar 45 ⟨g, 0, none⟩).run Try.prog w = .ok (.agg #[x, y, z]) w :=
  run_loadVar_row w g 45 45 #[x, y, z] (0, 0) _ h Try.underlying45 rfl (by kernel_rfl)
theorem results_cell_row1 {fn : Func} {p : Tmp} {ty : TypeId} (h : fn.results = #[.cell p ty]) (tmps : Array Value) (w : World) (g : Nat) (cs : Array Value) (hp : tmps.getD p undef = .pointer (some ⟨g, 0, none⟩))
    (hl : (loadVar ty ⟨g, 0, none⟩).run Try.prog w = .ok (.agg cs) w) : (results fn tmps).run Try.prog w = .ok (.agg cs) w := by
  have hp' : tmps[p]?.getD undef = .pointer (some ⟨g, 0, none⟩) := by simpa using hp
  simp [results, h, hp', asAddr, hl]
theorem results_cell_row2 {fn : Func} {p u : Tmp} {ty : TypeId} (h : fn.results = #[.cell p ty, .tmp u]) (tmps : Array Value) (w : World) (g : Nat) (cs : Array Value) (hp : tmps.getD p undef = .pointer (some ⟨g, 0, none⟩))
    (hl : (loadVar ty ⟨g, 0, none⟩).run Try.prog w = .ok (.agg cs) w) : (results fn tmps).run Try.prog w = .ok (.tuple #[.agg cs, tmps.getD u undef]) w := by
  have hp' : tmps[p]?.getD undef = .pointer (some ⟨g, 0, none⟩) := by simpa using hp
  simp [results, h, hp', asAddr, hl]
theorem own_two {w : World} {t : TypeId} {cs : Array Value} (o : Obj) : Own ((w.alloc o).alloc (.cells cs t)) (w.heap.size + 1) t cs := by
  have h := Own.new (w.alloc o) t cs
  rwa [World.size_alloc] at h
set_option maxHeartbeats 400000 in
theorem pNull_any (w : World) : Calls Try.prog 87 #[] w fun e w' => e = .returned (vV 0 0 ⟨#[]⟩) ∧ Below w.heap.size w w' := by
  go_enter Try.func87, Try.ntmps87
  go_wp2
  (try simp only [Exit.inBlock, Exit.then]); refine bodyPost_ret_by (results_cell_row1 (by rfl) _ _ (w.heap.size) _ (by rfl) (load_val (Own.new _ _ _))) ?_ ?_; (focus rfl); refine ⟨rfl, ?_⟩
  (repeat' (first | (with_reducible exact Below.refl _ _) | (with_reducible assumption) | (with_reducible refine Below.alloc ?_ ?_ _) | (with_reducible refine Below.drew ?_) | (with_reducible refine Below.setCell ?_ ?_ _) | (with_reducible refine Below.trans ?_ (Below.mono (by assumption) ?_)) | go_size))
set_option maxHeartbeats 400000 in
theorem rNull_any (w : World) : Calls Try.prog 43 #[] w fun e w' => e = .returned (vV 0 0 ⟨#[]⟩) ∧ Below w.heap.size w w' := by
  go_enter Try.func43, Try.ntmps43
  go_wp2
  (try simp only [Exit.inBlock, Exit.then]); refine bodyPost_ret_by (results_cell_row1 (by rfl) _ _ (w.heap.size) _ (by rfl) (load_val (Own.new _ _ _))) ?_ ?_; (focus rfl); refine ⟨rfl, ?_⟩
  (repeat' (first | (with_reducible exact Below.refl _ _) | (with_reducible assumption) | (with_reducible refine Below.alloc ?_ ?_ _) | (with_reducible refine Below.drew ?_) | (with_reducible refine Below.setCell ?_ ?_ _) | (with_reducible refine Below.trans ?_ (Below.mono (by assumption) ?_)) | go_size))
def vB (b : Bool) : Value := vV 3 (if b then 1 else 0) ⟨#[]⟩
/-! ### printable -/
theorem clo_any (x : Nat) (hx : x ≤ 1114111) (w : World) : Calls Try.prog 89 #[.int .i32 (x : Int)] w fun e w' => e = .returned (.bool (badR x)) ∧ w' = w := by
  by_cases h1 : (x : Int) < 32
  · have hb : badR x = true := by unfold badR; rw [decide_eq_true (by omega)]; rfl
    go_enter Try.func89, Try.ntmps89
    go_wp2
    go_ret
    exact ⟨by first | rfl | (rw [hb]; rfl), rfl⟩
  · by_cases h2 : 126 < (x : Int)
    · have hb : badR x = true := by unfold badR; rw [decide_eq_true (p := 126 < x) (by omega), Bool.or_true]
      go_enter Try.func89, Try.ntmps89
      go_wp2
      go_ret
      exact ⟨by first | rfl | (rw [hb]; rfl), rfl⟩
    · have hb : badR x = false := by unfold badR; rw [decide_eq_false (by omega), decide_eq_false (by omega)]; rfl
      go_enter Try.func89, Try.ntmps89
      go_wp2
      go_ret
      exact ⟨by first | rfl | (rw [hb]; rfl), rfl⟩
theorem clo_enters : ∀ args w, (callFunc 89 args).run Try.prog w = .ok (.enter 89 args) w := enters_of Try.func89 (by kernel_rfl) rfl
theorem contains_any (s : ByteArray) (w : World) : Calls Try.prog 88 #[.string s, .func (.func 89) #[] #[]] w fun e w' => e = .returned (.bool (!prnL s.data.toList)) ∧ Below w.heap.size w w' := by
  rw [← idx_prn]
  exact Try.strings_ContainsFunc_runes _ _ clo_enters badR s w (fun W x hx _ => (clo_any x hx W).mono fun e w' ⟨h1, h2⟩ => ⟨h1, 0, h2⟩)
set_option maxHeartbeats 400000 in
theorem pPrn_any (s : ByteArray) (w : World) : Calls Try.prog 73 #[.string s] w fun e w' => e = .returned (.bool (prnL s.data.toList)) ∧ Below w.heap.size w w' := by
  have hc := fun W => contains_any s W
  cases hp : prnL s.data.toList <;> rw [hp] at hc
  all_goals
    go_enter Try.func73, Try.ntmps73
    go_wp2_with (go_at_call 88; refine (hc _).mono ?_; rintro e w1 ⟨rfl, hb⟩)
    go_ret
    refine ⟨rfl, ?_⟩
    (repeat' (first | (with_reducible exact Below.refl _ _) | (with_reducible assumption) | (with_reducible refine Below.alloc ?_ ?_ _) | (with_reducible refine Below.drew ?_) | (with_reducible refine Below.setCell ?_ ?_ _) | (with_reducible refine Below.trans ?_ (Below.mono (by assumption) ?_)) | go_size))
theorem prn_take_not {s : ByteArray} {k : Nat} (h : k < s.size) (hk : (s[k].toNat : Int) < 32 ∨ 126 < (s[k].toNat : Int)) : prnL s.data.toList = false := by
  unfold prnL
  rw [Bool.eq_false_iff]; intro e
  rw [List.all_eq_true] at e
  have hm : s[k] ∈ s.data.toList := by
    have : s.data.toList[k]'(by simpa using h) ∈ s.data.toList := List.getElem_mem _
    exact this
  have := e _ hm
  simp only [Bool.and_eq_true, decide_eq_true_eq] at this
  omega
theorem prn_step {s : ByteArray} {k : Nat} (h : k < s.size) (hp : prnL (s.data.toList.take k) = true) (h1 : ¬ (s[k].toNat : Int) < 32) (h2 : ¬ 126 < (s[k].toNat : Int)) : prnL (s.data.toList.take (k + 1)) = true := by
  rw [List.take_succ_eq_append_getElem (by simpa using h)]
  unfold prnL at hp ⊢
  rw [List.all_append, hp, List.all_cons, List.all_nil]
  have : s.data.toList[k]'(by simpa using h) = s[k] := rfl
  rw [this, decide_eq_true (by omega), decide_eq_true (by omega)]; rfl
set_option maxHeartbeats 800000 in
theorem rPrn_any (s : ByteArray) (w : World) (hs : s.size < 9223372036854775807) : Calls Try.prog 74 #[.string s] w fun e w' => e = .returned (.bool (prnL s.data.toList)) ∧ w' = w := by
  generalize hR : prnL s.data.toList = R
  have HR := Lib.hid hR
  clear hR
  go_enter Try.func74, Try.ntmps74
  go_wp2
  go_loop [3] (fun i => ∃ k : Nat, k ≤ s.size ∧ i = .int .i64 k ∧ Hid (prnL (s.data.toList.take k) = true)) (fun i => s.size - (intOf i).toNat)
  case atStart => exact ⟨0, Nat.zero_le _, rfl, Lib.hid rfl⟩
  case round =>
    obtain ⟨k, hk, rfl, hd⟩ := hrel
    by_cases hlt : k < s.size
    · by_cases hc1 : (s[k].toNat : Int) < 32
      · go_wp2
        go_ret
        exact ⟨by rw [show R = false by rw [← HR.out, prn_take_not hlt (.inl hc1)]]; rfl, rfl⟩
      · by_cases hc2 : 126 < (s[k].toNat : Int)
        · go_wp2
          go_ret
          exact ⟨by rw [show R = false by rw [← HR.out, prn_take_not hlt (.inr hc2)]]; rfl, rfl⟩
        · go_wp2
          go_round
          case rel => exact ⟨k + 1, by omega, by go_num, Lib.hid (prn_step hlt hd.out hc1 hc2)⟩
          case measure => simp [intOf]; omega
    · go_wp2
      go_ret
      have ht : s.data.toList.take k = s.data.toList := List.take_of_length_le (by rw [← Lib.size_eq]; omega)
      have hd' := hd.out
      rw [ht, HR.out] at hd'
      exact ⟨by rw [hd']; rfl, rfl⟩
end Go.Proofs.Ytceohfjmjdnelaa.Va
/-
  Values: validity, constructors, comparisons, truth: what each function answers, in every world. Conditions: none.
-/
namespace Go.Proofs.Ytceohfjmjdnelaa.Va
set_option maxRecDepth 100000
open Go.RowKit

def emp (s : ByteArray) : Bool := s.toList == []
/-- Whether v is a value. -/
def vldV (k n : Int) (s : ByteArray) : Bool :=
  if k = 0 then decide (n = 0) && emp s
  else if k = 1 then decide (-1125899906842624 ≤ n) && decide (n ≤ 1125899906842624) && emp s
  else if k = 2 then decide (n = 0) && decide (s.size ≤ 200) && prnL s.data.toList
  else if k = 3 then (decide (n = 0) || decide (n = 1)) && emp s
  else false
set_option maxRecDepth 100000 in
set_option maxHeartbeats 1600000 in
theorem pValid_any (k n : Int) (s : ByteArray) (w : World) : Calls Try.prog 49 #[vV k n s] w fun e w' => e = .returned (.bool (vldV k n s)) ∧ Below w.heap.size w w' := by
  have hP := fun W => pPrn_any s W
  unfold vldV emp vV
  by_cases k0 : k = 0
  · subst k0
    rw [if_pos rfl]
    by_cases hn : n = 0 <;> cases he : s.toList == []
    all_goals
      go_enter Try.func49, Try.ntmps49
      go_wp2
      go_ret
      refine ⟨by simp [*], ?_⟩
      (repeat' (first | (with_reducible exact Below.refl _ _) | (with_reducible assumption) | (with_reducible refine Below.alloc ?_ ?_ _) | (with_reducible refine Below.drew ?_) | (with_reducible refine Below.setCell ?_ ?_ _) | (with_reducible refine Below.trans ?_ (Below.mono (by assumption) ?_)) | go_size))
  rw [if_neg k0]
  by_cases k1 : k = 1
  · subst k1
    rw [if_pos rfl]
    by_cases h1 : -1125899906842624 ≤ n <;> by_cases h2 : n ≤ 1125899906842624 <;> cases he : s.toList == []
    all_goals (first | (exfalso; omega) | skip)
    all_goals
      go_enter Try.func49, Try.ntmps49
      go_wp2
      go_ret
      refine ⟨by simp [*], ?_⟩
      (repeat' (first | (with_reducible exact Below.refl _ _) | (with_reducible assumption) | (with_reducible refine Below.alloc ?_ ?_ _) | (with_reducible refine Below.drew ?_) | (with_reducible refine Below.setCell ?_ ?_ _) | (with_reducible refine Below.trans ?_ (Below.mono (by assumption) ?_)) | go_size))
  rw [if_neg k1]
  by_cases k2 : k = 2
  · subst k2
    rw [if_pos rfl]
    by_cases hn : n = 0
    · by_cases hs : s.size ≤ 200
      · have hsi : (s.size : Int) ≤ 200 := by omega
        cases hp : prnL s.data.toList <;> rw [hp] at hP
        all_goals
          go_enter Try.func49, Try.ntmps49
          go_wp2_with (go_at_call 73; refine (hP _).mono ?_; rintro e w1 ⟨rfl, hb⟩)
          go_ret
          refine ⟨by simp [*], ?_⟩
          (repeat' (first | (with_reducible exact Below.refl _ _) | (with_reducible assumption) | (with_reducible refine Below.alloc ?_ ?_ _) | (with_reducible refine Below.drew ?_) | (with_reducible refine Below.setCell ?_ ?_ _) | (with_reducible refine Below.trans ?_ (Below.mono (by assumption) ?_)) | go_size))
      · have hsi : ¬ (s.size : Int) ≤ 200 := by omega
        go_enter Try.func49, Try.ntmps49
        go_wp2
        go_ret
        refine ⟨by simp [*], ?_⟩
        (repeat' (first | (with_reducible exact Below.refl _ _) | (with_reducible assumption) | (with_reducible refine Below.alloc ?_ ?_ _) | (with_reducible refine Below.drew ?_) | (with_reducible refine Below.setCell ?_ ?_ _) | (with_reducible refine Below.trans ?_ (Below.mono (by assumption) ?_)) | go_size))
    · go_enter Try.func49, Try.ntmps49
      go_wp2
      go_ret
      refine ⟨by simp [*], ?_⟩
      (repeat' (first | (with_reducible exact Below.refl _ _) | (with_reducible assumption) | (with_reducible refine Below.alloc ?_ ?_ _) | (with_reducible refine Below.drew ?_) | (with_reducible refine Below.setCell ?_ ?_ _) | (with_reducible refine Below.trans ?_ (Below.mono (by assumption) ?_)) | go_size))
  rw [if_neg k2]
  by_cases k3 : k = 3
  · subst k3
    rw [if_pos rfl]
    by_cases h1 : n = 0 <;> by_cases h2 : n = 1 <;> cases he : s.toList == []
    all_goals (first | (exfalso; omega) | skip)
    all_goals
      go_enter Try.func49, Try.ntmps49
      go_wp2
      go_ret
      refine ⟨by simp [*], ?_⟩
      (repeat' (first | (with_reducible exact Below.refl _ _) | (with_reducible assumption) | (with_reducible refine Below.alloc ?_ ?_ _) | (with_reducible refine Below.drew ?_) | (with_reducible refine Below.setCell ?_ ?_ _) | (with_reducible refine Below.trans ?_ (Below.mono (by assumption) ?_)) | go_size))
  rw [if_neg k3]
  have j0 : (k == 0) = false := by simpa using k0
  have j1 : (k == 1) = false := by simpa using k1
  have j2 : (k == 2) = false := by simpa using k2
  have j3 : (k == 3) = false := by simpa using k3
  go_enter Try.func49, Try.ntmps49
  go_wp2
  go_ret
  refine ⟨rfl, ?_⟩
  (repeat' (first | (with_reducible exact Below.refl _ _) | (with_reducible assumption) | (with_reducible refine Below.alloc ?_ ?_ _) | (with_reducible refine Below.drew ?_) | (with_reducible refine Below.setCell ?_ ?_ _) | (with_reducible refine Below.trans ?_ (Below.mono (by assumption) ?_)) | go_size))
set_option maxRecDepth 100000 in
set_option maxHeartbeats 1600000 in
theorem rValid_any (k n : Int) (s : ByteArray) (w : World) : Calls Try.prog 50 #[vV k n s] w fun e w' => e = .returned (.bool (vldV k n s)) ∧ Below w.heap.size w w' := by
  unfold vldV emp vV
  by_cases k0 : k = 0
  · subst k0
    rw [if_pos rfl]
    by_cases hn : n = 0 <;> cases he : s.toList == []
    all_goals
      go_enter Try.func50, Try.ntmps50
      go_wp2
      go_ret
      refine ⟨by simp [*], ?_⟩
      (repeat' (first | (with_reducible exact Below.refl _ _) | (with_reducible assumption) | (with_reducible refine Below.alloc ?_ ?_ _) | (with_reducible refine Below.drew ?_) | (with_reducible refine Below.setCell ?_ ?_ _) | (with_reducible refine Below.trans ?_ (Below.mono (by assumption) ?_)) | go_size))
  rw [if_neg k0]
  by_cases k1 : k = 1
  · subst k1
    rw [if_pos rfl]
    by_cases h1 : -1125899906842624 ≤ n <;> by_cases h2 : n ≤ 1125899906842624 <;> cases he : s.toList == []
    all_goals (first | (exfalso; omega) | skip)
    all_goals
      go_enter Try.func50, Try.ntmps50
      go_wp2
      go_ret
      refine ⟨by simp [*], ?_⟩
      (repeat' (first | (with_reducible exact Below.refl _ _) | (with_reducible assumption) | (with_reducible refine Below.alloc ?_ ?_ _) | (with_reducible refine Below.drew ?_) | (with_reducible refine Below.setCell ?_ ?_ _) | (with_reducible refine Below.trans ?_ (Below.mono (by assumption) ?_)) | go_size))
  rw [if_neg k1]
  by_cases k2 : k = 2
  · subst k2
    rw [if_pos rfl]
    by_cases hn : n = 0
    · by_cases hs : s.size ≤ 200
      · have hsi : (s.size : Int) ≤ 200 := by omega
        have hP := fun W => rPrn_any s W (by omega)
        cases hp : prnL s.data.toList <;> rw [hp] at hP
        all_goals
          go_enter Try.func50, Try.ntmps50
          go_wp2_with (go_at_call 74; refine (hP _).mono ?_; rintro e w1 ⟨rfl, rfl⟩)
          go_ret
          refine ⟨by simp [*], ?_⟩
          (repeat' (first | (with_reducible exact Below.refl _ _) | (with_reducible assumption) | (with_reducible refine Below.alloc ?_ ?_ _) | (with_reducible refine Below.drew ?_) | (with_reducible refine Below.setCell ?_ ?_ _) | (with_reducible refine Below.trans ?_ (Below.mono (by assumption) ?_)) | go_size))
      · have hsi : ¬ (s.size : Int) ≤ 200 := by omega
        go_enter Try.func50, Try.ntmps50
        go_wp2
        go_ret
        refine ⟨by simp [*], ?_⟩
        (repeat' (first | (with_reducible exact Below.refl _ _) | (with_reducible assumption) | (with_reducible refine Below.alloc ?_ ?_ _) | (with_reducible refine Below.drew ?_) | (with_reducible refine Below.setCell ?_ ?_ _) | (with_reducible refine Below.trans ?_ (Below.mono (by assumption) ?_)) | go_size))
    · go_enter Try.func50, Try.ntmps50
      go_wp2
      go_ret
      refine ⟨by simp [*], ?_⟩
      (repeat' (first | (with_reducible exact Below.refl _ _) | (with_reducible assumption) | (with_reducible refine Below.alloc ?_ ?_ _) | (with_reducible refine Below.drew ?_) | (with_reducible refine Below.setCell ?_ ?_ _) | (with_reducible refine Below.trans ?_ (Below.mono (by assumption) ?_)) | go_size))
  rw [if_neg k2]
  by_cases k3 : k = 3
  · subst k3
    rw [if_pos rfl]
    by_cases h1 : n = 0 <;> by_cases h2 : n = 1 <;> cases he : s.toList == []
    all_goals (first | (exfalso; omega) | skip)
    all_goals
      go_enter Try.func50, Try.ntmps50
      go_wp2
      go_ret
      refine ⟨by simp [*], ?_⟩
      (repeat' (first | (with_reducible exact Below.refl _ _) | (with_reducible assumption) | (with_reducible refine Below.alloc ?_ ?_ _) | (with_reducible refine Below.drew ?_) | (with_reducible refine Below.setCell ?_ ?_ _) | (with_reducible refine Below.trans ?_ (Below.mono (by assumption) ?_)) | go_size))
  rw [if_neg k3]
  have j0 : (k == 0) = false := by simpa using k0
  have j1 : (k == 1) = false := by simpa using k1
  have j2 : (k == 2) = false := by simpa using k2
  have j3 : (k == 3) = false := by simpa using k3
  go_enter Try.func50, Try.ntmps50
  go_wp2
  go_ret
  refine ⟨rfl, ?_⟩
  (repeat' (first | (with_reducible exact Below.refl _ _) | (with_reducible assumption) | (with_reducible refine Below.alloc ?_ ?_ _) | (with_reducible refine Below.drew ?_) | (with_reducible refine Below.setCell ?_ ?_ _) | (with_reducible refine Below.trans ?_ (Below.mono (by assumption) ?_)) | go_size))
end Go.Proofs.Ytceohfjmjdnelaa.Va
/-
  Values: constructors, comparisons, truth: what each function answers, in every world. Conditions: none.
-/
namespace Go.Proofs.Ytceohfjmjdnelaa.Va
set_option maxRecDepth 100000
open Go.RowKit

/-- v, or the null if it is not valid. -/
def nrm (k n : Int) (s : ByteArray) : Value := if vldV k n s then vV k n s else vV 0 0 ⟨#[]⟩
set_option maxRecDepth 100000 in
set_option maxHeartbeats 1600000 in
theorem rNorm_any (k n : Int) (s : ByteArray) (w : World) : Calls Try.prog 69 #[vV k n s] w fun e w' => e = .returned (nrm k n s) ∧ Below w.heap.size w w' := by
  have hV := fun W => rValid_any k n s W
  have hN := fun W => rNull_any W
  unfold nrm
  unfold vV at *
  have oB : Own ((w.alloc (.cells #[.int .i64 k, .int .i64 n, .string s] 45)).alloc (.cells #[.int .i64 0, .int .i64 0, .string ⟨#[]⟩] 45)) (w.heap.size + 1) 45 #[.int .i64 0, .int .i64 0, .string ⟨#[]⟩] := own_two _
  have oA : Own ((w.alloc (.cells #[.int .i64 k, .int .i64 n, .string s] 45)).alloc (.cells #[.int .i64 0, .int .i64 0, .string ⟨#[]⟩] 45)) w.heap.size 45 #[.int .i64 k, .int .i64 n, .string s] := (Own.new _ _ _).alloc _
  cases hv : vldV k n s
  · rw [if_neg (by simp)]
    rw [hv] at hV
    go_enter Try.func69, Try.ntmps69
    go_wp2_with fail
    refine (hV _).mono ?_
    rintro e w1 ⟨rfl, hb1⟩
    have z1 := hb1.size
    simp only [World.size_alloc] at z1
    have o1 := oB.below hb1 (by simp only [World.size_alloc]; omega)
    go_wp2_with fail
    refine (hN _).mono ?_
    rintro e w2 ⟨rfl, hb2⟩
    have z2 := hb2.size
    have o2 := o1.below hb2 (by omega)
    have d0 := o2.cell 0; have e0 := o2.free 0; have d1 := o2.cell 1; have e1 := o2.free 1; have d2 := o2.cell 2; have e2 := o2.free 2; (try simp only [List.getElem?_toArray, List.getElem?_cons_zero, List.getElem?_cons_succ] at d0 d1 d2)
    go_wp2
    (try simp only [Exit.inBlock, Exit.then]); refine bodyPost_ret_by (results_cell_row1 (by rfl) _ _ (w.heap.size + 1) _ (by rfl) (load_val (((o2.store 0 _).store 1 _).store 2 _))) ?_ ?_; (focus rfl); refine ⟨rfl, ?_⟩
    (repeat' (first | (with_reducible exact Below.refl _ _) | (with_reducible assumption) | (with_reducible refine Below.alloc ?_ ?_ _) | (with_reducible refine Below.drew ?_) | (with_reducible refine Below.setCell ?_ ?_ _) | (with_reducible refine Below.trans ?_ (Below.mono (by assumption) ?_)) | go_size))
  · rw [if_pos rfl]
    rw [hv] at hV
    go_enter Try.func69, Try.ntmps69
    go_wp2_with fail
    refine (hV _).mono ?_
    rintro e w1 ⟨rfl, hb1⟩
    have z1 := hb1.size
    simp only [World.size_alloc] at z1
    have o1 := oB.below hb1 (by simp only [World.size_alloc]; omega)
    have a1 := oA.below hb1 (by simp only [World.size_alloc]; omega)
    have d0 := o1.cell 0; have e0 := o1.free 0; have d1 := o1.cell 1; have e1 := o1.free 1; have d2 := o1.cell 2; have e2 := o1.free 2; (try simp only [List.getElem?_toArray, List.getElem?_cons_zero, List.getElem?_cons_succ] at d0 d1 d2)
    have d0a := a1.cell 0; have e0a := a1.free 0; have d1a := a1.cell 1; have e1a := a1.free 1; have d2a := a1.cell 2; have e2a := a1.free 2; (try simp only [List.getElem?_toArray, List.getElem?_cons_zero, List.getElem?_cons_succ] at d0a d1a d2a)
    go_wp2
    (try simp only [Exit.inBlock, Exit.then]); refine bodyPost_ret_by (results_cell_row1 (by rfl) _ _ (w.heap.size + 1) _ (by rfl) (load_val (((o1.store 0 _).store 1 _).store 2 _))) ?_ ?_; (focus rfl); refine ⟨rfl, ?_⟩
    (repeat' (first | (with_reducible exact Below.refl _ _) | (with_reducible assumption) | (with_reducible refine Below.alloc ?_ ?_ _) | (with_reducible refine Below.drew ?_) | (with_reducible refine Below.setCell ?_ ?_ _) | (with_reducible refine Below.trans ?_ (Below.mono (by assumption) ?_)) | go_size))
set_option maxRecDepth 100000 in
set_option maxHeartbeats 800000 in
theorem rInt_any (n : Int) (w : World) : Calls Try.prog 41 #[.int .i64 n] w fun e w' => e = .returned (nrm 1 n ⟨#[]⟩) ∧ Below w.heap.size w w' := by
  have hO := fun W => rNorm_any 1 n ⟨#[]⟩ W
  have oB : Own (w.alloc (.cells #[.int .i64 0, .int .i64 0, .string ⟨#[]⟩] 45)) w.heap.size 45 #[.int .i64 0, .int .i64 0, .string ⟨#[]⟩] := Own.new _ _ _
  unfold nrm at *
  cases hv : vldV 1 n ⟨#[]⟩
  all_goals
    rw [hv] at hO
    simp only [if_true, Bool.false_eq_true, if_false] at hO ⊢
    unfold vV at *
    go_enter Try.func41, Try.ntmps41
    go_wp2_with fail
    refine (hO _).mono ?_
    rintro e w1 ⟨rfl, hb1⟩
    have z1 := hb1.size
    simp only [World.size_alloc] at z1
    have o1 := oB.below hb1 (by simp only [World.size_alloc]; omega)
    have d0 := o1.cell 0; have e0 := o1.free 0; have d1 := o1.cell 1; have e1 := o1.free 1; have d2 := o1.cell 2; have e2 := o1.free 2; (try simp only [List.getElem?_toArray, List.getElem?_cons_zero, List.getElem?_cons_succ] at d0 d1 d2)
    go_wp2
    (try simp only [Exit.inBlock, Exit.then]); refine bodyPost_ret_by (results_cell_row1 (by rfl) _ _ (w.heap.size) _ (by rfl) (load_val (((o1.store 0 _).store 1 _).store 2 _))) ?_ ?_; (focus rfl); refine ⟨rfl, ?_⟩
    (repeat' (first | (with_reducible exact Below.refl _ _) | (with_reducible assumption) | (with_reducible refine Below.alloc ?_ ?_ _) | (with_reducible refine Below.drew ?_) | (with_reducible refine Below.setCell ?_ ?_ _) | (with_reducible refine Below.trans ?_ (Below.mono (by assumption) ?_)) | go_size))
set_option maxRecDepth 100000 in
set_option maxHeartbeats 800000 in
theorem rText_any (s : ByteArray) (w : World) : Calls Try.prog 42 #[.string s] w fun e w' => e = .returned (nrm 2 0 s) ∧ Below w.heap.size w w' := by
  have hO := fun W => rNorm_any 2 0 s W
  have oB : Own (w.alloc (.cells #[.int .i64 0, .int .i64 0, .string ⟨#[]⟩] 45)) w.heap.size 45 #[.int .i64 0, .int .i64 0, .string ⟨#[]⟩] := Own.new _ _ _
  unfold nrm at *
  cases hv : vldV 2 0 s
  all_goals
    rw [hv] at hO
    simp only [if_true, Bool.false_eq_true, if_false] at hO ⊢
    unfold vV at *
    go_enter Try.func42, Try.ntmps42
    go_wp2_with fail
    refine (hO _).mono ?_
    rintro e w1 ⟨rfl, hb1⟩
    have z1 := hb1.size
    simp only [World.size_alloc] at z1
    have o1 := oB.below hb1 (by simp only [World.size_alloc]; omega)
    have d0 := o1.cell 0; have e0 := o1.free 0; have d1 := o1.cell 1; have e1 := o1.free 1; have d2 := o1.cell 2; have e2 := o1.free 2; (try simp only [List.getElem?_toArray, List.getElem?_cons_zero, List.getElem?_cons_succ] at d0 d1 d2)
    go_wp2
    (try simp only [Exit.inBlock, Exit.then]); refine bodyPost_ret_by (results_cell_row1 (by rfl) _ _ (w.heap.size) _ (by rfl) (load_val (((o1.store 0 _).store 1 _).store 2 _))) ?_ ?_; (focus rfl); refine ⟨rfl, ?_⟩
    (repeat' (first | (with_reducible exact Below.refl _ _) | (with_reducible assumption) | (with_reducible refine Below.alloc ?_ ?_ _) | (with_reducible refine Below.drew ?_) | (with_reducible refine Below.setCell ?_ ?_ _) | (with_reducible refine Below.trans ?_ (Below.mono (by assumption) ?_)) | go_size))
end Go.Proofs.Ytceohfjmjdnelaa.Va
