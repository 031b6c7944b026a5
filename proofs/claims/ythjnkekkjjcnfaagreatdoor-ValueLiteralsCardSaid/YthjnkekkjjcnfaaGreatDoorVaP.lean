/-
  Pure mathematics of values: printable texts, quoting and its way back, replacing all. Conditions: none.
-/
import Derived.Lib.ItoaNum
import Derived.Lib.IndexMore
import Derived.Lib.CountLaws
import Derived.Lib.Replace
import Derived.Lib.Strings
import Derived.Lib.DecodeN
import Derived.Shelf.GgClosure.StringsIndexFunc
import Derived.Test.YthjnkekkjjcnfaaGreatDoorBase
namespace Go.Proofs.YthjnkekkjjcnfaaGreatDoor

/-! ### replacing all -/
def rAl (old new : List UInt8) (s : List UInt8) : List UInt8 := Lib.replaceK old new (Lib.count s old) s
theorem index_cons_hit {s old : List UInt8} (h : old.isPrefixOf s = true) : Lib.index s old = 0 := by
  cases s with
  | nil =>
    unfold Lib.index
    cases old with
    | nil => rfl
    | cons a l => cases h
  | cons b t => unfold Lib.index; rw [if_pos h]
theorem rAl_hit {old new s : List UInt8} (hne : old ≠ []) (h : old.isPrefixOf s = true) : rAl old new s = new ++ rAl old new (s.drop old.length) := by
  have h0 : Lib.index s old = ((0 : Nat) : Int) := index_cons_hit h
  unfold rAl
  rw [Lib.count_hit hne h0, Nat.zero_add, Nat.add_comm 1, Lib.replaceK_hit old new _ s 0 h0]
  simp
theorem rAl_miss {old new : List UInt8} (hne : old ≠ []) (b : UInt8) (t : List UInt8) (h : old.isPrefixOf (b :: t) = false) : rAl old new (b :: t) = b :: rAl old new t := by
  rcases Lib.index_spec t old with ⟨h1, _⟩ | ⟨i, h1, _, _, _⟩
  · have h2 : Lib.index (b :: t) old = -1 := by unfold Lib.index; rw [h, h1]; rfl
    unfold rAl
    rw [Lib.count_miss h1, Lib.count_miss h2]
    rfl
  · have h2 : Lib.index (b :: t) old = ((i + 1 : Nat) : Int) := by
      unfold Lib.index
      rw [h, h1]
      have : ((i : Int) == -1) = false := by rw [beq_eq_false_iff_ne]; omega
      simp [this]
    have e : (b :: t).drop (i + 1 + old.length) = t.drop (i + old.length) := by rw [Nat.add_right_comm]; rfl
    unfold rAl
    rw [Lib.count_hit hne h1, Lib.count_hit hne h2, e, Nat.add_comm 1, Lib.replaceK_hit old new _ t i h1, Lib.replaceK_hit old new _ (b :: t) (i + 1) h2, e]
    rfl
theorem rAl_nil {old new : List UInt8} (hne : old ≠ []) : rAl old new [] = [] := by
  have h1 : Lib.index [] old = -1 := by
    unfold Lib.index
    cases old with
    | nil => exact absurd rfl hne
    | cons a l => rfl
  unfold rAl
  rw [Lib.count_miss h1]
  rfl
theorem replaceAll_rAl (s old new : List UInt8) (h : old ≠ new) : Lib.replaceAll s old new = rAl old new s := by
  unfold Lib.replaceAll Lib.replace rAl Lib.replaceNum
  rw [if_neg (by simpa using h), if_pos (.inl (by omega))]

/-! ### quoting -/
/-- Every quote twice. -/
def dbl : List UInt8 → List UInt8
  | [] => []
  | b :: t => if b = 39 then 39 :: 39 :: dbl t else b :: dbl t
theorem rAl_dbl : ∀ s : List UInt8, rAl [39] [39, 39] s = dbl s
  | [] => rAl_nil (by simp)
  | b :: t => by
    by_cases h : b = 39
    · subst h
      rw [rAl_hit (by simp) (by rfl)]
      simp only [List.length_singleton, List.drop_succ_cons, List.drop_zero, dbl, if_true]
      rw [rAl_dbl t]; rfl
    · rw [rAl_miss (by simp) b t (by simp [List.isPrefixOf, Ne.symm h]), rAl_dbl t, dbl, if_neg h]
theorem all_dbl (s : List UInt8) : Lib.replaceAll s [39] [39, 39] = dbl s := by
  rw [replaceAll_rAl _ _ _ (by decide), rAl_dbl]
/-- What is inside a literal, every two quotes as one. -/
theorem rAl_und : ∀ s : List UInt8, rAl [39, 39] [39] (dbl s) = s
  | [] => rAl_nil (by simp)
  | b :: t => by
    by_cases h : b = 39
    · subst h
      rw [dbl, if_pos rfl, rAl_hit (by simp) (by rfl)]
      simp only [List.length_cons, List.length_nil, Nat.zero_add, List.drop_succ_cons, List.drop_zero]
      rw [rAl_und t]; rfl
    · rw [dbl, if_neg h, rAl_miss (by simp) b _ (by simp [List.isPrefixOf, Ne.symm h]), rAl_und t]
theorem all_und (s : List UInt8) : Lib.replaceAll (dbl s) [39, 39] [39] = s := by
  rw [replaceAll_rAl _ _ _ (by decide), rAl_und]
theorem dbl_app : ∀ s t : List UInt8, dbl (s ++ t) = dbl s ++ dbl t
  | [], t => rfl
  | b :: s, t => by
    simp only [List.cons_append, dbl]
    split <;> simp [dbl_app s t]
theorem dbl_len : ∀ s : List UInt8, (dbl s).length ≤ 2 * s.length ∧ s.length ≤ (dbl s).length
  | [] => ⟨Nat.le_refl _, Nat.le_refl _⟩
  | b :: s => by
    have := dbl_len s
    unfold dbl
    split <;> simp only [List.length_cons] <;> omega
theorem rAl_len (s : List UInt8) : ∀ n, s.length ≤ n → (rAl [39, 39] [39] s).length ≤ s.length := by
  intro n
  induction n generalizing s with
  | zero => intro h; have : s = [] := List.eq_nil_of_length_eq_zero (by omega); subst this; rw [rAl_nil (by simp)]; exact Nat.le_refl _
  | succ n ih =>
    intro h
    cases s with
    | nil => rw [rAl_nil (by simp)]; exact Nat.le_refl _
    | cons b t =>
      cases hp : ([39, 39] : List UInt8).isPrefixOf (b :: t)
      · rw [rAl_miss (by simp) b t hp]
        have := ih t (by simp only [List.length_cons] at h; omega)
        simp only [List.length_cons]; omega
      · rw [rAl_hit (by simp) hp]
        have h2 : ((b :: t).drop 2).length ≤ n := by rw [List.length_drop]; simp only [List.length_cons] at h ⊢; omega
        have := ih ((b :: t).drop 2) h2
        rw [show ([39, 39] : List UInt8).length = 2 from rfl, List.length_append]
        have h3 : 2 ≤ (b :: t).length := by
          cases t with
          | nil => simp [List.isPrefixOf] at hp
          | cons c t => simp
        rw [List.length_drop] at this
        rw [show ([39] : List UInt8).length = 1 from rfl]
        omega
theorem und_len (s : List UInt8) : (Lib.replaceAll s [39, 39] [39]).length ≤ s.length := by
  rw [replaceAll_rAl _ _ _ (by decide)]; exact rAl_len s _ (Nat.le_refl _)
/-- A text between quotes. -/
def quo (s : List UInt8) : List UInt8 := 39 :: dbl s ++ [39]
theorem quo_inj {s t : List UInt8} (h : quo s = quo t) : s = t := by
  have h1 : dbl s = dbl t := by
    unfold quo at h
    injection h with _ h
    exact List.append_cancel_right h
  rw [← all_und s, ← all_und t, h1]
/-- What the program takes for the text. -/
def innT (s : List UInt8) : List UInt8 := Lib.replaceAll (Lib.trimSuffix (Lib.trimPrefix s [39]) [39]) [39, 39] [39]
theorem inn_quo (s : List UInt8) : innT (quo s) = s := by
  unfold innT quo
  have h1 : Lib.trimPrefix (39 :: dbl s ++ [39]) [39] = dbl s ++ [39] := by
    unfold Lib.trimPrefix Lib.hasPrefix
    rw [if_pos (by simp [List.isPrefixOf])]
    simp
  have h2 : Lib.trimSuffix (dbl s ++ [39]) [39] = dbl s := by
    unfold Lib.trimSuffix Lib.hasSuffix
    rw [if_pos (by simp)]
    simp
  rw [h1, h2, all_und]

/-! ### printable -/
def prnL (l : List UInt8) : Bool := l.all fun b => decide (32 ≤ b.toNat) && decide (b.toNat ≤ 126)
def badR (x : Nat) : Bool := decide (x < 32) || decide (126 < x)
theorem badR_decode (n b0 b1 b2 b3 : Nat) (h : ¬ (32 ≤ b0 ∧ b0 ≤ 126)) : badR (Lib.decodeN n b0 b1 b2 b3).1 = true := by
  unfold badR
  simp only [Bool.or_eq_true, decide_eq_true_eq]
  unfold Lib.decodeN
  repeat' split
  all_goals (dsimp only; omega)
theorem goodR_decode (n b0 b1 b2 b3 : Nat) (h : 32 ≤ b0 ∧ b0 ≤ 126) : Lib.decodeN n b0 b1 b2 b3 = (b0, 1) ∧ badR b0 = false := by
  unfold badR Lib.decodeN
  rw [if_pos (by omega)]
  refine ⟨rfl, ?_⟩
  rw [decide_eq_false (by omega), decide_eq_false (by omega)]; rfl
theorem get_list (s : ByteArray) (i : Nat) (h : i < s.size) : s.get! i = s[i] := by
  show s.data[i]! = s.data[i]
  exact getElem!_pos s.data i h
theorem idx_prn_from (s : ByteArray) : ∀ (f pos : Nat), s.size ≤ pos + f → (decide (0 ≤ Lib.idxFuncFrom badR true s f pos) = !prnL (s.data.toList.drop pos))
  | 0, pos, h => by
    rw [List.drop_eq_nil_of_le (by rw [← Lib.size_eq]; omega)]
    rfl
  | f + 1, pos, h => by
    unfold Lib.idxFuncFrom
    by_cases hp : pos < s.size
    · rw [if_pos hp]
      have hd : s.data.toList.drop pos = s[pos] :: s.data.toList.drop (pos + 1) := List.drop_eq_getElem_cons (by rw [← Lib.size_eq]; exact hp)
      have hg : (s.get! pos).toNat = s[pos].toNat := by rw [get_list s pos hp]
      rw [Lib.decode_at, hg, hd]
      by_cases hb : 32 ≤ s[pos].toNat ∧ s[pos].toNat ≤ 126
      · obtain ⟨e, e2⟩ := goodR_decode (s.size - pos) s[pos].toNat (s.get! (pos + 1)).toNat (s.get! (pos + 2)).toNat (s.get! (pos + 3)).toNat hb
        rw [e]
        dsimp only
        rw [e2, if_neg (by simp), idx_prn_from s f (pos + 1) (by omega)]
        unfold prnL
        rw [List.all_cons, decide_eq_true hb.1, decide_eq_true hb.2]
        rfl
      · rw [badR_decode _ _ _ _ _ hb, if_pos rfl, decide_eq_true (by omega)]
        unfold prnL
        rw [List.all_cons]
        have : (decide (32 ≤ s[pos].toNat) && decide (s[pos].toNat ≤ 126)) = false := by
          rw [Bool.eq_false_iff]; intro e; simp only [Bool.and_eq_true, decide_eq_true_eq] at e; exact hb e
        rw [this]; rfl
    · rw [if_neg hp, List.drop_eq_nil_of_le (by rw [← Lib.size_eq]; omega)]
      rfl
theorem idx_prn (s : ByteArray) : decide (0 ≤ Lib.idxFunc badR true s) = !prnL s.data.toList := idx_prn_from s s.size 0 (by omega)
end Go.Proofs.YthjnkekkjjcnfaaGreatDoor
