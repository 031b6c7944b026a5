import Derived.Lib.ItoaNum
import Derived.Lib.IndexMore
import Derived.Lib.CountLaws
import Derived.Lib.Replace
import Derived.Lib.Strings
import Derived.Lib.DecodeN
import Derived.Shelf.GgClosure.StringsIndexFunc
import Derived.Test.YteihjneeiojgaaaMA
import Derived.Test.YteihjneeiojgaaaProg
import Derived.WalkKit
import Derived.WalkSpells
import Derived.WalkLawsBesides
import Derived.Deep.QuietTactic
import Derived.BigQuiet
import Derived.Handy
import Derived.Lib.Hide
import Derived.Test.YteihjneeiojgaaaMB
/-
  Pure mathematics of values: printable texts, quoting and its way back, replacing all. Conditions: none.
-/
namespace Go.Proofs.Yteihjneeiojgaaa.Va
set_option maxRecDepth 100000
set_option linter.unusedVariables false
set_option linter.unusedSimpArgs false

/-! ### replacing all -/
def rAl (old new : List UInt8) (s : List UInt8) : List UInt8 := Lib.replaceK old new (Lib.count s old) s
theorem index_cons_hit {s old : List UInt8} (h : old.isPrefixOf s = true) : Lib.index s old = 0 := by
  cases s with
  | nil =>
    unfold Lib.index
    cases old with
    | nil => rfl
    | cons a l => cases h
  | cons b t => unfold Lib.index; rw [if_pos h]
theorem rAl_hit {old new s : List UInt8} (hne : old ≠ []) (h : old.isPrefixOf s = true) : rAl old new s = new ++ rAl old new (s.drop old.length) := by
  have h0 : Lib.index s old = ((0 : Nat) : Int) := index_cons_hit h
  unfold rAl
  rw [Lib.count_hit hne h0, Nat.zero_add, Nat.add_comm 1, Lib.replaceK_hit old new _ s 0 h0]
  simp
theorem rAl_miss {old new : List UInt8} (hne : old ≠ []) (b : UInt8) (t : List UInt8) (h : old.isPrefixOf (b :: t) = false) : rAl old new (b :: t) = b :: rAl old new t := by
  rcases Lib.index_spec t old with ⟨h1, _⟩ | ⟨i, h1, _, _, _⟩
  · have h2 : Lib.index (b :: t) old = -1 := by unfold Lib.index; rw [h, h1]; rfl
    unfold rAl
    rw [Lib.count_miss h1, Lib.count_miss h2]
    rfl
  · have h2 : Lib.index (b :: t) old = ((i + 1 : Nat) : Int) := by
      unfold Lib.index
      rw [h, h1]
      have : ((i : Int) == -1) = false := by rw [beq_eq_false_iff_ne]; omega
      simp [this]
    have e : (b :: t).drop (i + 1 + old.length) = t.drop (i + old.length) := by rw [Nat.add_right_comm]; rfl
    unfold rAl
    rw [Lib.count_hit hne h1, Lib.count_hit hne h2, e, Nat.add_comm 1, Lib.replaceK_hit old new _ t i h1, Lib.replaceK_hit old new _ (b :: t) (i + 1) h2, e]
    rfl
theorem rAl_nil {old new : List UInt8} (hne : old ≠ []) : rAl old new [] = [] := by
  have h1 : Lib.index [] old = -1 := by
    unfold Lib.index
    cases old with
    | nil => exact absurd rfl hne
    | cons a l => rfl
  unfold rAl
  rw [Lib.count_miss h1]
  rfl
theorem replaceAll_rAl (s old new : List UInt8) (h : old ≠ new) : Lib.replaceAll s old new = rAl old new s := by
  unfold Lib.replaceAll Lib.replace rAl Lib.replaceNum
  rw [if_neg (by simpa using h), if_pos (.inl (by omega))]

/-! ### quoting -/
/-- Every quote twice. -/
def dbl : List UInt8 → List UInt8
  | [] => []
  | b :: t => if b = 39 then 39 :: 39 :: dbl t else b :: dbl t
theorem rAl_dbl : ∀ s : List UInt8, rAl [39] [39, 39] s = dbl s
  | [] => rAl_nil (by simp)
  | b :: t => by
    by_cases h : b = 39
    · subst h
      rw [rAl_hit (by simp) (by rfl)]
      simp only [List.length_singleton, List.drop_succ_cons, List.drop_zero, dbl, if_true]
      rw [rAl_dbl t]; rfl
    · rw [rAl_miss (by simp) b t (by simp [List.isPrefixOf, Ne.symm h]), rAl_dbl t, dbl, if_neg h]
theorem all_dbl (s : List UInt8) : Lib.replaceAll s [39] [39, 39] = dbl s := by
  rw [replaceAll_rAl _ _ _ (by decide), rAl_dbl]
/-- What is inside a literal, every two quotes as one. -/
theorem rAl_und : ∀ s : List UInt8, rAl [39, 39] [39] (dbl s) = s
  | [] => rAl_nil (by simp)
  | b :: t => by
    by_cases h : b = 39
    · subst h
      rw [dbl, if_pos rfl, rAl_hit (by simp) (by rfl)]
      simp only [List.length_cons, List.length_nil, Nat.zero_add, List.drop_succ_cons, List.drop_zero]
      rw [rAl_und t]; rfl
    · rw [dbl, if_neg h, rAl_miss (by simp) b _ (by simp [List.isPrefixOf, Ne.symm h]), rAl_und t]
theorem all_und (s : List UInt8) : Lib.replaceAll (dbl s) [39, 39] [39] = s := by
  rw [replaceAll_rAl _ _ _ (by decide), rAl_und]
theorem dbl_app : ∀ s t : List UInt8, dbl (s ++ t) = dbl s ++ dbl t
  | [], t => rfl
  | b :: s, t => by
    simp only [List.cons_append, dbl]
    split <;> simp [dbl_app s t]
theorem dbl_len : ∀ s : List UInt8, (dbl s).length ≤ 2 * s.length ∧ s.length ≤ (dbl s).length
  | [] => ⟨Nat.le_refl _, Nat.le_refl _⟩
  | b :: s => by
    have := dbl_len s
    unfold dbl
    split <;> simp only [List.length_cons] <;> omega
theorem rAl_len (s : List UInt8) : ∀ n, s.length ≤ n → (rAl [39, 39] [39] s).length ≤ s.length := by
  intro n
  induction n generalizing s with
  | zero => intro h; have : s = [] := List.eq_nil_of_length_eq_zero (by omega); subst this; rw [rAl_nil (by simp)]; exact Nat.le_refl _
  | succ n ih =>
    intro h
    cases s with
    | nil => rw [rAl_nil (by simp)]; exact Nat.le_refl _
    | cons b t =>
      cases hp : ([39, 39] : List UInt8).isPrefixOf (b :: t)
      · rw [rAl_miss (by simp) b t hp]
        have := ih t (by simp only [List.length_cons] at h; omega)
        simp only [List.length_cons]; omega
      · rw [rAl_hit (by simp) hp]
        have h2 : ((b :: t).drop 2).length ≤ n := by rw [List.length_drop]; simp only [List.length_cons] at h ⊢; omega
        have := ih ((b :: t).drop 2) h2
        rw [show ([39, 39] : List UInt8).length = 2 from rfl, List.length_append]
        have h3 : 2 ≤ (b :: t).length := by
          cases t with
          | nil => simp [List.isPrefixOf] at hp
          | cons c t => simp
        rw [List.length_drop] at this
        rw [show ([39] : List UInt8).length = 1 from rfl]
        omega
theorem und_len (s : List UInt8) : (Lib.replaceAll s [39, 39] [39]).length ≤ s.length := by
  rw [replaceAll_rAl _ _ _ (by decide)]; exact rAl_len s _ (Nat.le_refl _)
/-- A text between quotes. -/
def quo (s : List UInt8) : List UInt8 := 39 :: dbl s ++ [39]
theorem quo_inj {s t : List UInt8} (h : quo s = quo t) : s = t := by
  have h1 : dbl s = dbl t := by
    unfold quo at h
    injection h with _ h
    exact List.append_cancel_right h
  rw [← all_und s, ← all_und t, h1]
/-- What the program takes for the text. -/
def innT (s : List UInt8) : List UInt8 := Lib.replaceAll (Lib.trimSuffix (Lib.trimPrefix s [39]) [39]) [39, 39] [39]
theorem inn_quo (s : List UInt8) : innT (quo s) = s := by
  unfold innT quo
  have h1 : Lib.trimPrefix (39 :: dbl s ++ [39]) [39] = dbl s ++ [39] := by
    unfold Lib.trimPrefix Lib.hasPrefix
    rw [if_pos (by simp [List.isPrefixOf])]
    simp
  have h2 : Lib.trimSuffix (dbl s ++ [39]) [39] = dbl s := by
    unfold Lib.trimSuffix Lib.hasSuffix
    rw [if_pos (by simp)]
    simp
  rw [h1, h2, all_und]

/-! ### printable -/
def prnL (l : List UInt8) : Bool := l.all fun b => decide (32 ≤ b.toNat) && decide (b.toNat ≤ 126)
def badR (x : Nat) : Bool := decide (x < 32) || decide (126 < x)
theorem badR_decode (n b0 b1 b2 b3 : Nat) (h : ¬ (32 ≤ b0 ∧ b0 ≤ 126)) : badR (Lib.decodeN n b0 b1 b2 b3).1 = true := by
  unfold badR
  simp only [Bool.or_eq_true, decide_eq_true_eq]
  unfold Lib.decodeN
  repeat' split
  all_goals (dsimp only; omega)
theorem goodR_decode (n b0 b1 b2 b3 : Nat) (h : 32 ≤ b0 ∧ b0 ≤ 126) : Lib.decodeN n b0 b1 b2 b3 = (b0, 1) ∧ badR b0 = false := by
  unfold badR Lib.decodeN
  rw [if_pos (by omega)]
  refine ⟨rfl, ?_⟩
  rw [decide_eq_false (by omega), decide_eq_false (by omega)]; rfl
theorem get_list (s : ByteArray) (i : Nat) (h : i < s.size) : s.get! i = s[i] := by
  show s.data[i]! = s.data[i]
  exact getElem!_pos s.data i h
theorem idx_prn_from (s : ByteArray) : ∀ (f pos : Nat), s.size ≤ pos + f → (decide (0 ≤ Lib.idxFuncFrom badR true s f pos) = !prnL (s.data.toList.drop pos))
  | 0, pos, h => by
    rw [List.drop_eq_nil_of_le (by rw [← Lib.size_eq]; omega)]
    rfl
  | f + 1, pos, h => by
    unfold Lib.idxFuncFrom
    by_cases hp : pos < s.size
    · rw [if_pos hp]
      have hd : s.data.toList.drop pos = s[pos] :: s.data.toList.drop (pos + 1) := List.drop_eq_getElem_cons (by rw [← Lib.size_eq]; exact hp)
      have hg : (s.get! pos).toNat = s[pos].toNat := by rw [get_list s pos hp]
      rw [Lib.decode_at, hg, hd]
      by_cases hb : 32 ≤ s[pos].toNat ∧ s[pos].toNat ≤ 126
      · obtain ⟨e, e2⟩ := goodR_decode (s.size - pos) s[pos].toNat (s.get! (pos + 1)).toNat (s.get! (pos + 2)).toNat (s.get! (pos + 3)).toNat hb
        rw [e]
        dsimp only
        rw [e2, if_neg (by simp), idx_prn_from s f (pos + 1) (by omega)]
        unfold prnL
        rw [List.all_cons, decide_eq_true hb.1, decide_eq_true hb.2]
        rfl
      · rw [badR_decode _ _ _ _ _ hb, if_pos rfl, decide_eq_true (by omega)]
        unfold prnL
        rw [List.all_cons]
        have : (decide (32 ≤ s[pos].toNat) && decide (s[pos].toNat ≤ 126)) = false := by
          rw [Bool.eq_false_iff]; intro e; simp only [Bool.and_eq_true, decide_eq_true_eq] at e; exact hb e
        rw [this]; rfl
    · rw [if_neg hp, List.drop_eq_nil_of_le (by rw [← Lib.size_eq]; omega)]
      rfl
theorem idx_prn (s : ByteArray) : decide (0 ≤ Lib.idxFunc badR true s) = !prnL s.data.toList := idx_prn_from s s.size 0 (by omega)
end Go.Proofs.Yteihjneeiojgaaa.Va
/-
  Truth values of the program and of the reference: what each function answers, in every world. Conditions: none.
-/
namespace Go.Proofs.Yteihjneeiojgaaa.Va
set_option maxRecDepth 100000
set_option linter.unusedVariables false
set_option linter.unusedSimpArgs false
open Go.RowKit

def vnot (a : Int) : Int := if a = 0 then 2 else if a = 2 then 0 else 1
def vand (a b : Int) : Int := if a = 0 ∨ b = 0 then 0 else if a = 2 ∧ b = 2 then 2 else 1
def vor (a b : Int) : Int := if a = 2 ∨ b = 2 then 2 else if a = 0 ∧ b = 0 then 0 else 1
/-- What combined answers for two truth values. -/
def cmbT (d a b : Int) : Int := if a = d ∨ b = d then d else if a = vnot d ∧ b = vnot d then vnot d else 1
theorem cmb_and (a b : Int) : cmbT 0 a b = vand a b := by
  unfold cmbT vand vnot
  simp
theorem cmb_or (a b : Int) : cmbT 2 a b = vor a b := by
  unfold cmbT vor vnot
  simp
theorem two_new (w : World) (x y : Value) (t : TypeId) : Below w.heap.size w (w.alloc (.cells #[x, y] t)) ∧ w.heap.size < (w.alloc (.cells #[x, y] t)).heap.size ∧ (w.alloc (.cells #[x, y] t)).cell? ⟨w.heap.size, 0, none⟩ = some x ∧ (w.alloc (.cells #[x, y] t)).cell? ⟨w.heap.size, 1, none⟩ = some y := by
  refine ⟨(Below.refl _ _).alloc (Nat.le_refl _) _, by rw [World.size_alloc]; omega, ?_, ?_⟩
  · rw [cell_of_row _ _ 0 #[x, y] t (0, 0) (heap_alloc_new w _)]; rfl
  · rw [cell_of_row _ _ 1 #[x, y] t (0, 0) (heap_alloc_new w _)]; rfl
end Go.Proofs.Yteihjneeiojgaaa.Va
/-
  Values: boxes that hold one, printable texts, validity: what each function answers, in every world. Conditions: none.
-/
namespace Go.Proofs.Yteihjneeiojgaaa.Va
set_option maxRecDepth 100000
set_option linter.unusedVariables false
set_option linter.unusedSimpArgs false
open Go.RowKit

/-- A value as the program has it. -/
def vV (k n : Int) (s : ByteArray) : Value := .agg #[.int .i64 k, .int .i64 n, .string s]
theorem load_val {w : World} {g : Nat} {x y z : Value} (h : Own w g 38 #[x, y, z]) : (loadVar 38 ⟨g, 0, none⟩).run Try.prog w = .ok (.agg #[x, y, z]) w :=
  run_loadVar_row w g 38 38 #[x, y, z] (0, 0) _ h Try.underlying38 rfl (by kernel_rfl)
theorem results_cell_row1 {fn : Func} {p : Tmp} {ty : TypeId} (h : fn.results = #[.cell p ty]) (tmps : Array Value) (w : World) (g : Nat) (cs : Array Value) (hp : tmps.getD p undef = .pointer (some ⟨g, 0, none⟩))
    (hl : (loadVar ty ⟨g, 0, none⟩).run Try.prog w = .ok (.agg cs) w) : (results fn tmps).run Try.prog w = .ok (.agg cs) w := by
  have hp' : tmps[p]?.getD undef = .pointer (some ⟨g, 0, none⟩) := by simpa using hp
  simp [results, h, hp', asAddr, hl]
theorem results_cell_row2 {fn : Func} {p u : Tmp} {ty : TypeId} (h : fn.results = #[.cell p ty, .tmp u]) (tmps : Array Value) (w : World) (g : Nat) (cs : Array Value) (hp : tmps.getD p undef = .pointer (some ⟨g, 0, none⟩))
    (hl : (loadVar ty ⟨g, 0, none⟩).run Try.prog w = .ok (.agg cs) w) : (results fn tmps).run Try.prog w = .ok (.tuple #[.agg cs, tmps.getD u undef]) w := by
  have hp' : tmps[p]?.getD undef = .pointer (some ⟨g, 0, none⟩) := by simpa using hp
  simp [results, h, hp', asAddr, hl]
theorem own_two {w : World} {t : TypeId} {cs : Array Value} (o : Obj) : Own ((w.alloc o).alloc (.cells cs t)) (w.heap.size + 1) t cs := by
  have h := Own.new (w.alloc o) t cs
  rwa [World.size_alloc] at h
set_option maxHeartbeats 400000 in
theorem rNull_any (w : World) : Calls Try.prog 43 #[] w fun e w' => e = .returned (vV 0 0 ⟨#[]⟩) ∧ Below w.heap.size w w' := by
  go_enter Try.func43, Try.ntmps43
  go_wp2
  (try simp only [Exit.inBlock, Exit.then]); refine bodyPost_ret_by (results_cell_row1 (by rfl) _ _ (w.heap.size) _ (by rfl) (load_val (Own.new _ _ _))) ?_ ?_; (focus rfl); refine ⟨rfl, ?_⟩
  (repeat' (first | (with_reducible exact Below.refl _ _) | (with_reducible assumption) | (with_reducible refine Below.alloc ?_ ?_ _) | (with_reducible refine Below.drew ?_) | (with_reducible refine Below.setCell ?_ ?_ _) | (with_reducible refine Below.trans ?_ (Below.mono (by assumption) ?_)) | go_size))
def vB (b : Bool) : Value := vV 3 (if b then 1 else 0) ⟨#[]⟩
/-! ### printable -/
theorem clo_any (x : Nat) (hx : x ≤ 1114111) (w : World) : Calls Try.prog 82 #[.int .i32 (x : Int)] w fun e w' => e = .returned (.bool (badR x)) ∧ w' = w := by
  by_cases h1 : (x : Int) < 32
  · have hb : badR x = true := by unfold badR; rw [decide_eq_true (by omega)]; rfl
    go_enter Try.func82, Try.ntmps82
    go_wp2
    go_ret
    exact ⟨by first | rfl | (rw [hb]; rfl), rfl⟩
  · by_cases h2 : 126 < (x : Int)
    · have hb : badR x = true := by unfold badR; rw [decide_eq_true (p := 126 < x) (by omega), Bool.or_true]
      go_enter Try.func82, Try.ntmps82
      go_wp2
      go_ret
      exact ⟨by first | rfl | (rw [hb]; rfl), rfl⟩
    · have hb : badR x = false := by unfold badR; rw [decide_eq_false (by omega), decide_eq_false (by omega)]; rfl
      go_enter Try.func82, Try.ntmps82
      go_wp2
      go_ret
      exact ⟨by first | rfl | (rw [hb]; rfl), rfl⟩
theorem clo_enters : ∀ args w, (callFunc 82 args).run Try.prog w = .ok (.enter 82 args) w := enters_of Try.func82 (by kernel_rfl) rfl
theorem contains_any (s : ByteArray) (w : World) : Calls Try.prog 81 #[.string s, .func (.func 82) #[] #[]] w fun e w' => e = .returned (.bool (!prnL s.data.toList)) ∧ Below w.heap.size w w' := by
  rw [← idx_prn]
  exact Try.strings_ContainsFunc_runes _ _ clo_enters badR s w (fun W x hx _ => (clo_any x hx W).mono fun e w' ⟨h1, h2⟩ => ⟨h1, 0, h2⟩)
set_option maxHeartbeats 400000 in
theorem pPrn_any (s : ByteArray) (w : World) : Calls Try.prog 73 #[.string s] w fun e w' => e = .returned (.bool (prnL s.data.toList)) ∧ Below w.heap.size w w' := by
  have hc := fun W => contains_any s W
  cases hp : prnL s.data.toList <;> rw [hp] at hc
  all_goals
    go_enter Try.func73, Try.ntmps73
    go_wp2_with (go_at_call 81; refine (hc _).mono ?_; rintro e w1 ⟨rfl, hb⟩)
    go_ret
    refine ⟨rfl, ?_⟩
    (repeat' (first | (with_reducible exact Below.refl _ _) | (with_reducible assumption) | (with_reducible refine Below.alloc ?_ ?_ _) | (with_reducible refine Below.drew ?_) | (with_reducible refine Below.setCell ?_ ?_ _) | (with_reducible refine Below.trans ?_ (Below.mono (by assumption) ?_)) | go_size))
theorem prn_take_not {s : ByteArray} {k : Nat} (h : k < s.size) (hk : (s[k].toNat : Int) < 32 ∨ 126 < (s[k].toNat : Int)) : prnL s.data.toList = false := by
  unfold prnL
  rw [Bool.eq_false_iff]; intro e
  rw [List.all_eq_true] at e
  have hm : s[k] ∈ s.data.toList := by
    have : s.data.toList[k]'(by simpa using h) ∈ s.data.toList := List.getElem_mem _
    exact this
  have := e _ hm
  simp only [Bool.and_eq_true, decide_eq_true_eq] at this
  omega
theorem prn_step {s : ByteArray} {k : Nat} (h : k < s.size) (hp : prnL (s.data.toList.take k) = true) (h1 : ¬ (s[k].toNat : Int) < 32) (h2 : ¬ 126 < (s[k].toNat : Int)) : prnL (s.data.toList.take (k + 1)) = true := by
  rw [List.take_succ_eq_append_getElem (by simpa using h)]
  unfold prnL at hp ⊢
  rw [List.all_append, hp, List.all_cons, List.all_nil]
  have : s.data.toList[k]'(by simpa using h) = s[k] := rfl
  rw [this, decide_eq_true (by omega), decide_eq_true (by omega)]; rfl
set_option maxHeartbeats 800000 in
theorem rPrn_any (s : ByteArray) (w : World) (hs : s.size < 9223372036854775807) : Calls Try.prog 58 #[.string s] w fun e w' => e = .returned (.bool (prnL s.data.toList)) ∧ w' = w := by
  generalize hR : prnL s.data.toList = R
  have HR := Lib.hid hR
  clear hR
  go_enter Try.func58, Try.ntmps58
  go_wp2
  go_loop [3] (fun i => ∃ k : Nat, k ≤ s.size ∧ i = .int .i64 k ∧ Hid (prnL (s.data.toList.take k) = true)) (fun i => s.size - (intOf i).toNat)
  case atStart => exact ⟨0, Nat.zero_le _, rfl, Lib.hid rfl⟩
  case round =>
    obtain ⟨k, hk, rfl, hd⟩ := hrel
    by_cases hlt : k < s.size
    · by_cases hc1 : (s[k].toNat : Int) < 32
      · go_wp2
        go_ret
        exact ⟨by rw [show R = false by rw [← HR.out, prn_take_not hlt (.inl hc1)]]; rfl, rfl⟩
      · by_cases hc2 : 126 < (s[k].toNat : Int)
        · go_wp2
          go_ret
          exact ⟨by rw [show R = false by rw [← HR.out, prn_take_not hlt (.inr hc2)]]; rfl, rfl⟩
        · go_wp2
          go_round
          case rel => exact ⟨k + 1, by omega, by go_num, Lib.hid (prn_step hlt hd.out hc1 hc2)⟩
          case measure => simp [intOf]; omega
    · go_wp2
      go_ret
      have ht : s.data.toList.take k = s.data.toList := List.take_of_length_le (by rw [← Lib.size_eq]; omega)
      have hd' := hd.out
      rw [ht, HR.out] at hd'
      exact ⟨by rw [hd']; rfl, rfl⟩
end Go.Proofs.Yteihjneeiojgaaa.Va
