/-
  The text of a period, as a function on bytes. Conditions: none.
-/
import Derived.Lib.ItoaNum
import Derived.Lib.IndexMore
import Derived.Lib.Strings
import Derived.Laws.Concat
import Derived.Test.YthjnkekkjjcnfaaGreatDoorBase
namespace Go.Proofs.YthjnkekkjjcnfaaGreatDoor
def sForever : List UInt8 := [102, 111, 114, 101, 118, 101, 114]
def textP (a b : Int) : List UInt8 := if vld a b then [91] ++ Lib.itoa a ++ [44, 32] ++ (if b = 1099511627776 then sForever else Lib.itoa b) ++ [41] else []

/-- The value of decimal digits, at most the end of time. -/
def numVal (l : List UInt8) : Int := l.foldl (fun n c => min (10 * n + ((c.toNat : Int) - 48)) 1099511627776) 0
def isDig (c : UInt8) : Bool := decide (48 ≤ (c.toNat : Int)) && decide ((c.toNat : Int) ≤ 57)
def numBad (l : List UInt8) : Bool := l.isEmpty || (l.head? == some 48 && l != [48])
/-- A number without leading zeros. -/
def numOk (l : List UInt8) : Bool := !numBad l && l.all isDig

theorem numVal_bd_aux : ∀ (l : List UInt8) (n : Int), l.all isDig = true → 0 ≤ n → n ≤ 1099511627776 → 0 ≤ l.foldl (fun n c => min (10 * n + ((c.toNat : Int) - 48)) 1099511627776) n ∧ l.foldl (fun n c => min (10 * n + ((c.toNat : Int) - 48)) 1099511627776) n ≤ 1099511627776
  | [], n, _, h0, h1 => ⟨h0, h1⟩
  | c :: l, n, hl, h0, h1 => by
    simp only [List.all_cons, Bool.and_eq_true, isDig, decide_eq_true_eq] at hl
    have hl' : l.all isDig = true := by simpa [isDig, List.all_eq_true] using hl.2
    have h2 := hl.1
    exact numVal_bd_aux l (min (10 * n + ((c.toNat : Int) - 48)) 1099511627776) hl' (by omega) (by omega)
theorem numVal_bd {l : List UInt8} (h : l.all isDig = true) : 0 ≤ numVal l ∧ numVal l ≤ 1099511627776 := numVal_bd_aux l 0 h (by omega) (by omega)
theorem numVal_snoc (l : List UInt8) (c : UInt8) : numVal (l ++ [c]) = min (10 * numVal l + ((c.toNat : Int) - 48)) 1099511627776 := by
  unfold numVal; rw [List.foldl_append]; rfl
theorem take_snoc (s : ByteArray) (k : Nat) (h : k < s.size) : s.data.toList.take (k + 1) = s.data.toList.take k ++ [s[k]] := by
  rw [List.take_succ_eq_append_getElem (by simpa using h)]; rfl
theorem take_all {s : ByteArray} {k : Nat} (h : s.size ≤ k) : s.data.toList.take k = s.data.toList := List.take_of_length_le (by simpa using h)

def numRes (l : List UInt8) : Value := if numOk l then .tuple #[.int .i64 (numVal l), .bool true] else .tuple #[.int .i64 0, .bool false]
theorem numRes_no {l : List UInt8} (h : numOk l = false) : numRes l = .tuple #[.int .i64 0, .bool false] := by simp [numRes, h]
theorem numRes_yes {l : List UInt8} (h : numOk l = true) : numRes l = .tuple #[.int .i64 (numVal l), .bool true] := by simp [numRes, h]
theorem mem_at (s : ByteArray) (k : Nat) (h : k < s.size) : s[k] ∈ s.data.toList := by
  have : s.data.toList[k]'(by simpa using h) ∈ s.data.toList := List.getElem_mem _
  exact this
theorem all_not {s : ByteArray} {k : Nat} (h : k < s.size) (hd : isDig s[k] = false) : s.data.toList.all isDig = false := by
  rw [Bool.eq_false_iff]; intro hall
  rw [List.all_eq_true] at hall
  rw [hall _ (mem_at s k h)] at hd; cases hd
theorem numOk_not {s : ByteArray} {k : Nat} (h : k < s.size) (hd : isDig s[k] = false) : numOk s.data.toList = false := by
  unfold numOk; rw [all_not h hd, Bool.and_false]
theorem numOk_bad {l : List UInt8} (h : numBad l = true) : numOk l = false := by simp [numOk, h]
theorem numOk_good {l : List UInt8} (h : numBad l = false) (hd : l.all isDig = true) : numOk l = true := by simp [numOk, h, hd]
theorem dig_lo {c : UInt8} (h : (c.toNat : Int) < 48) : isDig c = false := by unfold isDig; rw [decide_eq_false (by omega)]; rfl
theorem dig_hi {c : UInt8} (h : 57 < (c.toNat : Int)) : isDig c = false := by unfold isDig; rw [decide_eq_false (p := (c.toNat : Int) ≤ 57) (by omega), Bool.and_false]
theorem dig_in {c : UInt8} (h1 : ¬ (c.toNat : Int) < 48) (h2 : ¬ 57 < (c.toNat : Int)) : isDig c = true := by unfold isDig; rw [decide_eq_true (by omega), decide_eq_true (by omega)]; rfl
theorem all_step {s : ByteArray} {k : Nat} (h : k < s.size) (ha : (s.data.toList.take k).all isDig = true) (hd : isDig s[k] = true) : (s.data.toList.take (k + 1)).all isDig = true := by
  rw [take_snoc s k h, List.all_append, ha]; simp [hd]
theorem val_step {s : ByteArray} {k : Nat} (h : k < s.size) : min (10 * numVal (s.data.toList.take k) + ((s[k].toNat : Int) - 48)) 1099511627776 = numVal (s.data.toList.take (k + 1)) := by
  rw [take_snoc s k h, numVal_snoc]
theorem head_at (s : ByteArray) (h : 0 < s.size) : s.data.toList.head? = some s[0] := by
  rw [List.head?_eq_getElem?, List.getElem?_eq_getElem (by simpa using h)]; rfl
theorem empty_of_size {s : ByteArray} (h : ¬ 0 < s.size) : s.data.toList = [] := by
  apply List.eq_nil_of_length_eq_zero
  rw [← Lib.size_eq]; omega
theorem size_of_empty {s : ByteArray} (h : s.data.toList = []) : s.size = 0 := by rw [Lib.size_eq, h]; rfl
theorem byte48 {c : UInt8} (h : (c.toNat : Int) = 48) : c = 48 := by
  apply UInt8.toNat_inj.1; have : (48 : UInt8).toNat = 48 := rfl; omega
theorem byte48_not {c : UInt8} (h : ¬ (c.toNat : Int) = 48) : c ≠ 48 := by intro e; subst e; exact h rfl
theorem bad_not48 {s : ByteArray} (h0 : 0 < s.size) (h : ¬ (s[0].toNat : Int) = 48) : numBad s.data.toList = false := by
  have hne : s.data.toList.isEmpty = false := by
    rw [Bool.eq_false_iff]; intro e; have := size_of_empty (List.isEmpty_iff.1 e); omega
  unfold numBad
  rw [hne, head_at s h0]
  simp [byte48_not h]
theorem bad_48 {s : ByteArray} (h0 : 0 < s.size) (h : (s[0].toNat : Int) = 48) (hz : (s.toList == [48]) = false) : numBad s.data.toList = true := by
  have hz' : s.data.toList ≠ [48] := by rw [← Lib.toList_data]; simpa using hz
  unfold numBad
  rw [head_at s h0, byte48 h]
  simp [hz']
theorem bad_zero {s : ByteArray} (hz : (s.toList == [48]) = true) : numBad s.data.toList = false := by
  have hz' : s.data.toList = [48] := by rw [← Lib.toList_data]; simpa using hz
  rw [hz']; rfl

theorem cat5 (l m : List UInt8) : (ByteArray.mk #[91] ++ ByteArray.mk l.toArray ++ ByteArray.mk #[44, 32] ++ ByteArray.mk m.toArray ++ ByteArray.mk #[41]) = ByteArray.mk ([91] ++ l ++ [44, 32] ++ m ++ [41]).toArray := by
  rw [show (#[91] : Array UInt8) = [91].toArray from rfl, show (#[44, 32] : Array UInt8) = [44, 32].toArray from rfl, show (#[41] : Array UInt8) = [41].toArray from rfl]
  simp only [ByteArray.mk_append_mk]

theorem ret_str {x y : ByteArray} (h : x = y) : Ending.returned (.string x) = Ending.returned (.string y) := by rw [h]

/-- One digit, cut out of the constant. -/
theorem digit_cut_fin : ∀ i : Fin 10, (ByteArray.mk #[48, 49, 50, 51, 52, 53, 54, 55, 56, 57]).extract i.val (i.val + 1) = ByteArray.mk [UInt8.ofNat (48 + i.val)].toArray := by decide +kernel
theorem digit_cut (i : Nat) (h : i < 10) : (ByteArray.mk #[48, 49, 50, 51, 52, 53, 54, 55, 56, 57]).extract i (i + 1) = ByteArray.mk [UInt8.ofNat (48 + i)].toArray := digit_cut_fin ⟨i, h⟩

theorem dec_step (k : Nat) (h : 9 < k) : Lib.decDigits k = Lib.decDigits (k / 10) ++ [UInt8.ofNat (48 + k % 10)] := by
  rw [Lib.decDigits, dif_neg (by omega)]
theorem dec_last (k : Nat) (h : k ≤ 9) : Lib.decDigits k = [UInt8.ofNat (48 + k)] := by
  rw [Lib.decDigits, dif_pos (by omega)]
theorem itoa_nat (n : Nat) : Lib.itoa (n : Int) = Lib.decDigits n := by
  unfold Lib.itoa
  rw [if_neg (by omega), Int.toNat_natCast]
theorem number_step {n k : Nat} {l : List UInt8} (h9 : 9 < k) (hd : Lib.decDigits n = Lib.decDigits k ++ l) : Lib.decDigits n = Lib.decDigits (k / 10) ++ (UInt8.ofNat (48 + k % 10) :: l) := by
  rw [hd, dec_step k h9]; simp
theorem number_str (k : Nat) (l : List UInt8) (h : k < 10) : (ByteArray.mk #[48, 49, 50, 51, 52, 53, 54, 55, 56, 57]).extract k (k + 1) ++ ByteArray.mk l.toArray = ByteArray.mk (UInt8.ofNat (48 + k) :: l).toArray := by
  rw [digit_cut k h, ByteArray.mk_append_mk]; rfl

def numN (l : List UInt8) : Int := if numOk l then numVal l else 0
theorem numRes_eq (l : List UInt8) : numRes l = .tuple #[.int .i64 (numN l), .bool (numOk l)] := by
  unfold numRes numN; cases numOk l <;> rfl
theorem numN_bd (l : List UInt8) : 0 ≤ numN l ∧ numN l ≤ 1099511627776 := by
  unfold numN
  cases h : numOk l
  · simp
  · have : l.all isDig = true := by unfold numOk at h; rw [Bool.and_eq_true] at h; exact h.2
    simpa using numVal_bd this

def cutHead (l : List UInt8) : List UInt8 := Lib.trimPrefix l [91]
def cutTail (l : List UInt8) : List UInt8 := Lib.trimSuffix (cutHead l) [41]
def cutFirst (l : List UInt8) : List UInt8 := (Lib.cut (cutTail l) [44, 32]).1
def cutSecond (l : List UInt8) : List UInt8 := (Lib.cut (cutTail l) [44, 32]).2.1
def cutOpn (l : List UInt8) : Bool := Lib.hasPrefix l [91]
def cutCls (l : List UInt8) : Bool := Lib.hasSuffix (cutHead l) [41]
def cutDvd (l : List UInt8) : Bool := (Lib.cut (cutTail l) [44, 32]).2.2
def cutWhole (l : List UInt8) : Bool := cutOpn l && cutCls l && cutDvd l

/-- A period and an error (0: none, 1: syntax, 6: range). -/
def chk (a b : Int) : Int × Int × Int := if vld a b then (a, b, 0) else (0, 0, 6)
def parseP (l : List UInt8) : Int × Int × Int :=
  if cutWhole l = false then (0, 0, 1) else if numOk (cutFirst l) = false then (0, 0, 1)
  else if cutSecond l = sForever then chk (numN (cutFirst l)) 1099511627776
  else if numOk (cutSecond l) = false then (0, 0, 1)
  else if numN (cutSecond l) = 1099511627776 then (0, 0, 6) else chk (numN (cutFirst l)) (numN (cutSecond l))
def perErr (p : Int × Int × Int) : Value := .tuple #[.agg #[.int .i64 p.1, .int .i64 p.2.1], .int .i64 p.2.2]
theorem ret_pe {p q : Int × Int × Int} (h : p = q) : Ending.returned (perErr p) = Ending.returned (perErr q) := by rw [h]
end Go.Proofs.YthjnkekkjjcnfaaGreatDoor
