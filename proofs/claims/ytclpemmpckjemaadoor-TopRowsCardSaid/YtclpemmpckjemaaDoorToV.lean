/-
  The order of values, of the program and of the reference; the reference's Valid. Conditions: none.
-/
import Derived.Test.YtclpemmpckjemaaDoorCoV
import Derived.Test.YtclpemmpckjemaaDoorCoKm
import Derived.Test.YtclpemmpckjemaaDoorShelf
import Derived.Laws.StructEq
import Derived.WalkKit
import Derived.WalkSpells
import Derived.WalkLawsBesides
import Derived.Deep.QuietTactic
import Derived.BigQuiet
import Derived.Handy
import Derived.Lib.Hide
namespace Go.Proofs.YtclpemmpckjemaaDoor
open Go.RowKit

theorem cb_spec : ∀ l m : List UInt8, Lib.compareBytes l m = if Op.bytesLess l m then -1 else if l == m then 0 else 1
  | [], [] => rfl
  | [], _ :: _ => rfl
  | _ :: _, [] => rfl
  | a :: x, b :: y => by
    unfold Lib.compareBytes Op.bytesLess
    rw [cb_spec x y]
    by_cases h1 : a < b
    · simp [h1]
    · by_cases h2 : b < a
      · have hne : a ≠ b := by intro e; subst e; exact h1 h2
        have hb : (a == b) = false := by simpa using hne
        simp [h1, h2, hne]
      · have hab : a = b := by
          have h3 : ¬ a.toNat < b.toNat := h1
          have h4 : ¬ b.toNat < a.toNat := h2
          exact UInt8.toNat_inj.1 (by omega)
        subst hab
        simp [h1]
/-- The order of values. -/
def cmpV (k n : Int) (s : ByteArray) (k2 n2 : Int) (s2 : ByteArray) : Int :=
  if k < k2 then -1 else if k2 < k then 1 else if n < n2 then -1 else if n2 < n then 1 else Lib.compareBytes s.data.toList s2.data.toList
def cmpP (p q : Vl) : Int := if lessP p q = true then -1 else if p = q then 0 else 1
theorem cmpV_P (k n : Int) (s : ByteArray) (k2 n2 : Int) (s2 : ByteArray) : cmpV k n s k2 n2 s2 = cmpP (k, n, s) (k2, n2, s2) := by
  unfold cmpV cmpP lessP
  rw [cb_spec, ← Lib.toList_data, ← Lib.toList_data]
  have hs : (s = s2) = (s.toList = s2.toList) := by
    apply propext
    exact ⟨fun e => by rw [e], fun e => mk_ext (by rw [← Lib.toList_data, ← Lib.toList_data]; exact e)⟩
  simp only [Prod.mk.injEq, hs]
  rcases Int.lt_trichotomy k k2 with h | h | h
  · simp [h]
  · subst h
    rcases Int.lt_trichotomy n n2 with h | h | h
    · simp [h]
    · subst h
      simp
    · simp [h, show ¬ n < n2 by omega, show ¬ n = n2 by omega]
  · simp [h, show ¬ k < k2 by omega, show ¬ k = k2 by omega]
set_option maxRecDepth 100000 in
set_option maxHeartbeats 1600000 in
theorem pCompareV_any (k n : Int) (s : ByteArray) (k2 n2 : Int) (s2 : ByteArray) (w : World) :
    Calls Tryd.prog 14 #[valV (k, n, s), valV (k2, n2, s2)] w fun e w' => e = .returned (.int .i64 (cmpV k n s k2 n2 s2)) ∧ Below w.heap.size w w' := by
  have h1 := fun W => Tryd.cmp_Compare_int k k2 W
  have h2 := fun W => Tryd.cmp_Compare_int n n2 W
  have h3 := fun W => Tryd.strings_Compare s s2 W
  unfold cmpV
  generalize hs : Lib.compareBytes s.data.toList s2.data.toList = c3 at *
  clear hs
  unfold valV
  dsimp only
  unfold Lib.compareInt at h1 h2
  rcases Int.lt_trichotomy k k2 with h | h | h
  · rw [if_pos h]
    rw [if_pos h] at h1
    go_enter Tryd.func14, Tryd.ntmps14
    go_wp2_with (go_at_call 28; with_reducible refine (h1 _).mono ?_; rintro e w1 ⟨rfl, rfl⟩)
    go_ret
    refine ⟨rfl, ?_⟩
    (repeat' (first | (with_reducible exact Below.refl _ _) | (with_reducible assumption) | (with_reducible refine Below.alloc ?_ ?_ _) | (with_reducible refine Below.drew ?_) | (with_reducible refine Below.setCell ?_ ?_ _) | (with_reducible refine Below.trans ?_ (Below.mono (by assumption) ?_)) | go_size))
  · subst h
    rw [if_neg (by omega), if_neg (by omega)]
    rw [if_neg (by omega), if_neg (by omega)] at h1
    rcases Int.lt_trichotomy n n2 with h | h | h
    · rw [if_pos h]
      rw [if_pos h] at h2
      go_enter Tryd.func14, Tryd.ntmps14
      go_wp2_with (go_at_call 28; (first | with_reducible refine (h1 _).mono ?_ | with_reducible refine (h2 _).mono ?_); rintro e w1 ⟨rfl, rfl⟩)
      go_ret
      refine ⟨rfl, ?_⟩
      (repeat' (first | (with_reducible exact Below.refl _ _) | (with_reducible assumption) | (with_reducible refine Below.alloc ?_ ?_ _) | (with_reducible refine Below.drew ?_) | (with_reducible refine Below.setCell ?_ ?_ _) | (with_reducible refine Below.trans ?_ (Below.mono (by assumption) ?_)) | go_size))
    · subst h
      rw [if_neg (by omega), if_neg (by omega)]
      rw [if_neg (by omega), if_neg (by omega)] at h2
      go_enter Tryd.func14, Tryd.ntmps14
      go_wp2_with (first | (go_at_call 28; (first | with_reducible refine (h1 _).mono ?_ | with_reducible refine (h2 _).mono ?_); rintro e w1 ⟨rfl, rfl⟩) | (go_at_call 29; with_reducible refine (h3 _).mono ?_; rintro e w1 ⟨rfl, rfl⟩))
      go_ret
      refine ⟨rfl, ?_⟩
      (repeat' (first | (with_reducible exact Below.refl _ _) | (with_reducible assumption) | (with_reducible refine Below.alloc ?_ ?_ _) | (with_reducible refine Below.drew ?_) | (with_reducible refine Below.setCell ?_ ?_ _) | (with_reducible refine Below.trans ?_ (Below.mono (by assumption) ?_)) | go_size))
    · rw [if_neg (by omega), if_pos h]
      rw [if_neg (by omega), if_pos h] at h2
      go_enter Tryd.func14, Tryd.ntmps14
      go_wp2_with (go_at_call 28; (first | with_reducible refine (h1 _).mono ?_ | with_reducible refine (h2 _).mono ?_); rintro e w1 ⟨rfl, rfl⟩)
      go_ret
      refine ⟨rfl, ?_⟩
      (repeat' (first | (with_reducible exact Below.refl _ _) | (with_reducible assumption) | (with_reducible refine Below.alloc ?_ ?_ _) | (with_reducible refine Below.drew ?_) | (with_reducible refine Below.setCell ?_ ?_ _) | (with_reducible refine Below.trans ?_ (Below.mono (by assumption) ?_)) | go_size))
  · rw [if_neg (by omega), if_pos h]
    rw [if_neg (by omega), if_pos h] at h1
    go_enter Tryd.func14, Tryd.ntmps14
    go_wp2_with (go_at_call 28; with_reducible refine (h1 _).mono ?_; rintro e w1 ⟨rfl, rfl⟩)
    go_ret
    refine ⟨rfl, ?_⟩
    (repeat' (first | (with_reducible exact Below.refl _ _) | (with_reducible assumption) | (with_reducible refine Below.alloc ?_ ?_ _) | (with_reducible refine Below.drew ?_) | (with_reducible refine Below.setCell ?_ ?_ _) | (with_reducible refine Below.trans ?_ (Below.mono (by assumption) ?_)) | go_size))
def sgn (a b : Bool) : Int := if a then -1 else if b then 1 else 0
set_option maxHeartbeats 400000 in
theorem sign_any (a b : Bool) (w : World) : Calls Tryd.prog 45 #[.bool a, .bool b] w fun e w' => e = .returned (.int .i64 (sgn a b)) ∧ w' = w := by
  cases a <;> cases b
  all_goals
    go_enter Tryd.func45, Tryd.ntmps45
    go_wp2
    go_ret
    exact ⟨rfl, rfl⟩
set_option maxRecDepth 100000 in
set_option maxHeartbeats 1600000 in
theorem rCompareV_any (k n : Int) (s : ByteArray) (k2 n2 : Int) (s2 : ByteArray) (w : World) :
    Calls Tryd.prog 41 #[valV (k, n, s), valV (k2, n2, s2)] w fun e w' => e = .returned (.int .i64 (cmpV k n s k2 n2 s2)) ∧ Below w.heap.size w w' := by
  have hS := fun a b W => sign_any a b W
  unfold cmpV
  rw [cb_spec, ← Lib.toList_data, ← Lib.toList_data]
  unfold valV
  dsimp only
  rcases Int.lt_trichotomy k k2 with h | h | h
  · rw [if_pos h]
    go_enter Tryd.func41, Tryd.ntmps41
    go_wp2_with (go_at_call 45; refine (hS _ _ _).mono ?_; rintro e w1 ⟨rfl, rfl⟩)
    go_ret
    refine ⟨rfl, ?_⟩
    (repeat' (first | (with_reducible exact Below.refl _ _) | (with_reducible assumption) | (with_reducible refine Below.alloc ?_ ?_ _) | (with_reducible refine Below.drew ?_) | (with_reducible refine Below.setCell ?_ ?_ _) | (with_reducible refine Below.trans ?_ (Below.mono (by assumption) ?_)) | go_size))
  · subst h
    rw [if_neg (by omega), if_neg (by omega)]
    rcases Int.lt_trichotomy n n2 with h | h | h
    · rw [if_pos h]
      go_enter Tryd.func41, Tryd.ntmps41
      go_wp2_with (go_at_call 45; refine (hS _ _ _).mono ?_; rintro e w1 ⟨rfl, rfl⟩)
      go_ret
      refine ⟨rfl, ?_⟩
      (repeat' (first | (with_reducible exact Below.refl _ _) | (with_reducible assumption) | (with_reducible refine Below.alloc ?_ ?_ _) | (with_reducible refine Below.drew ?_) | (with_reducible refine Below.setCell ?_ ?_ _) | (with_reducible refine Below.trans ?_ (Below.mono (by assumption) ?_)) | go_size))
    · subst h
      rw [if_neg (by omega), if_neg (by omega)]
      cases hl : Op.bytesLess s.toList s2.toList <;> cases he : s.toList == s2.toList
      all_goals
        go_enter Tryd.func41, Tryd.ntmps41
        go_wp2_with (go_at_call 45; refine (hS _ _ _).mono ?_; rintro e w1 ⟨rfl, rfl⟩)
        go_ret
        refine ⟨rfl, ?_⟩
        (repeat' (first | (with_reducible exact Below.refl _ _) | (with_reducible assumption) | (with_reducible refine Below.alloc ?_ ?_ _) | (with_reducible refine Below.drew ?_) | (with_reducible refine Below.setCell ?_ ?_ _) | (with_reducible refine Below.trans ?_ (Below.mono (by assumption) ?_)) | go_size))
    · rw [if_neg (by omega), if_pos h]
      go_enter Tryd.func41, Tryd.ntmps41
      go_wp2_with (go_at_call 45; refine (hS _ _ _).mono ?_; rintro e w1 ⟨rfl, rfl⟩)
      go_ret
      have hd : ¬ n < n2 := by omega
      refine ⟨by simp [sgn, hd], ?_⟩
      (repeat' (first | (with_reducible exact Below.refl _ _) | (with_reducible assumption) | (with_reducible refine Below.alloc ?_ ?_ _) | (with_reducible refine Below.drew ?_) | (with_reducible refine Below.setCell ?_ ?_ _) | (with_reducible refine Below.trans ?_ (Below.mono (by assumption) ?_)) | go_size))
  · rw [if_neg (by omega), if_pos h]
    go_enter Tryd.func41, Tryd.ntmps41
    go_wp2_with (go_at_call 45; refine (hS _ _ _).mono ?_; rintro e w1 ⟨rfl, rfl⟩)
    go_ret
    have hd : ¬ k < k2 := by omega
    refine ⟨by simp [sgn, hd], ?_⟩
    (repeat' (first | (with_reducible exact Below.refl _ _) | (with_reducible assumption) | (with_reducible refine Below.alloc ?_ ?_ _) | (with_reducible refine Below.drew ?_) | (with_reducible refine Below.setCell ?_ ?_ _) | (with_reducible refine Below.trans ?_ (Below.mono (by assumption) ?_)) | go_size))
theorem pCmp_any (p q : Vl) (w : World) :
    Calls Tryd.prog 14 #[valV p, valV q] w fun e w' => e = .returned (.int .i64 (cmpP p q)) ∧ Below w.heap.size w w' := by
  obtain ⟨k, n, s⟩ := p; obtain ⟨k2, n2, s2⟩ := q
  rw [← cmpV_P]; exact pCompareV_any k n s k2 n2 s2 w
theorem rCmp_any (p q : Vl) (w : World) :
    Calls Tryd.prog 41 #[valV p, valV q] w fun e w' => e = .returned (.int .i64 (cmpP p q)) ∧ Below w.heap.size w w' := by
  obtain ⟨k, n, s⟩ := p; obtain ⟨k2, n2, s2⟩ := q
  rw [← cmpV_P]; exact rCompareV_any k n s k2 n2 s2 w
theorem prn7_take_not {s : ByteArray} {k : Nat} (h : k < s.size) (hk : (s[k].toNat : Int) < 32 ∨ 126 < (s[k].toNat : Int)) : prnB s.data.toList = false := by
  unfold prnB
  rw [Bool.eq_false_iff]; intro e
  rw [List.all_eq_true] at e
  have hm : s[k] ∈ s.data.toList := by
    have : s.data.toList[k]'(by simpa using h) ∈ s.data.toList := List.getElem_mem _
    exact this
  have := e _ hm
  simp only [Bool.and_eq_true, decide_eq_true_eq] at this
  omega
theorem prn7_step {s : ByteArray} {k : Nat} (h : k < s.size) (hp : prnB (s.data.toList.take k) = true) (h1 : ¬ (s[k].toNat : Int) < 32) (h2 : ¬ 126 < (s[k].toNat : Int)) : prnB (s.data.toList.take (k + 1)) = true := by
  rw [List.take_succ_eq_append_getElem (by simpa using h)]
  unfold prnB at hp ⊢
  rw [List.all_append, hp, List.all_cons, List.all_nil]
  have : s.data.toList[k]'(by simpa using h) = s[k] := rfl
  rw [this, decide_eq_true (by omega), decide_eq_true (by omega)]; rfl
set_option maxHeartbeats 800000 in
theorem rPrn7_any (s : ByteArray) (w : World) (hs : s.size < 9223372036854775807) : Calls Tryd.prog 33 #[.string s] w fun e w' => e = .returned (.bool (prnB s.data.toList)) ∧ w' = w := by
  generalize hR : prnB s.data.toList = R
  have HR := Lib.hid hR
  clear hR
  go_enter Tryd.func33, Tryd.ntmps33
  go_wp2
  go_loop [3] (fun i => ∃ k : Nat, k ≤ s.size ∧ i = .int .i64 k ∧ Hid (prnB (s.data.toList.take k) = true)) (fun i => s.size - (intOf i).toNat)
  case atStart => exact ⟨0, Nat.zero_le _, rfl, Lib.hid rfl⟩
  case round =>
    obtain ⟨k, hk, rfl, hd⟩ := hrel
    by_cases hlt : k < s.size
    · by_cases hc1 : (s[k].toNat : Int) < 32
      · go_wp2
        go_ret
        exact ⟨by rw [show R = false by rw [← HR.out, prn7_take_not hlt (.inl hc1)]]; rfl, rfl⟩
      · by_cases hc2 : 126 < (s[k].toNat : Int)
        · go_wp2
          go_ret
          exact ⟨by rw [show R = false by rw [← HR.out, prn7_take_not hlt (.inr hc2)]]; rfl, rfl⟩
        · go_wp2
          go_round
          case rel => exact ⟨k + 1, by omega, by go_num, Lib.hid (prn7_step hlt hd.out hc1 hc2)⟩
          case measure => simp [intOf]; omega
    · go_wp2
      go_ret
      have ht : s.data.toList.take k = s.data.toList := List.take_of_length_le (by rw [← Lib.size_eq]; omega)
      have hd' := hd.out
      rw [ht, HR.out] at hd'
      exact ⟨by rw [hd']; rfl, rfl⟩
set_option maxRecDepth 100000 in
set_option maxHeartbeats 1600000 in
theorem rValid7_any (k n : Int) (s : ByteArray) (w : World) : Calls Tryd.prog 16 #[valV (k, n, s)] w fun e w' => e = .returned (.bool (okP (k, n, s))) ∧ Below w.heap.size w w' := by
  unfold okP valV
  dsimp only
  by_cases k0 : k = 0
  · subst k0
    rw [if_pos rfl]
    by_cases hn : n = 0 <;> cases he : s.toList == []
    all_goals
      go_enter Tryd.func16, Tryd.ntmps16
      go_wp2
      go_ret
      refine ⟨by simp [*], ?_⟩
      (repeat' (first | (with_reducible exact Below.refl _ _) | (with_reducible assumption) | (with_reducible refine Below.alloc ?_ ?_ _) | (with_reducible refine Below.drew ?_) | (with_reducible refine Below.setCell ?_ ?_ _) | (with_reducible refine Below.trans ?_ (Below.mono (by assumption) ?_)) | go_size))
  rw [if_neg k0]
  by_cases k1 : k = 1
  · subst k1
    rw [if_pos rfl]
    by_cases h1 : -1125899906842624 ≤ n <;> by_cases h2 : n ≤ 1125899906842624 <;> cases he : s.toList == []
    all_goals (first | (exfalso; omega) | skip)
    all_goals
      go_enter Tryd.func16, Tryd.ntmps16
      go_wp2
      go_ret
      refine ⟨by simp [*], ?_⟩
      (repeat' (first | (with_reducible exact Below.refl _ _) | (with_reducible assumption) | (with_reducible refine Below.alloc ?_ ?_ _) | (with_reducible refine Below.drew ?_) | (with_reducible refine Below.setCell ?_ ?_ _) | (with_reducible refine Below.trans ?_ (Below.mono (by assumption) ?_)) | go_size))
  rw [if_neg k1]
  by_cases k2 : k = 2
  · subst k2
    rw [if_pos rfl]
    by_cases hn : n = 0
    · by_cases hs : s.size ≤ 200
      · have hsi : (s.size : Int) ≤ 200 := by omega
        have hP := fun W => rPrn7_any s W (by omega)
        cases hp : prnB s.data.toList <;> rw [hp] at hP
        all_goals
          go_enter Tryd.func16, Tryd.ntmps16
          go_wp2_with (go_at_call 33; refine (hP _).mono ?_; rintro e w1 ⟨rfl, rfl⟩)
          go_ret
          refine ⟨by simp [*], ?_⟩
          (repeat' (first | (with_reducible exact Below.refl _ _) | (with_reducible assumption) | (with_reducible refine Below.alloc ?_ ?_ _) | (with_reducible refine Below.drew ?_) | (with_reducible refine Below.setCell ?_ ?_ _) | (with_reducible refine Below.trans ?_ (Below.mono (by assumption) ?_)) | go_size))
      · have hsi : ¬ (s.size : Int) ≤ 200 := by omega
        go_enter Tryd.func16, Tryd.ntmps16
        go_wp2
        go_ret
        refine ⟨by simp [*], ?_⟩
        (repeat' (first | (with_reducible exact Below.refl _ _) | (with_reducible assumption) | (with_reducible refine Below.alloc ?_ ?_ _) | (with_reducible refine Below.drew ?_) | (with_reducible refine Below.setCell ?_ ?_ _) | (with_reducible refine Below.trans ?_ (Below.mono (by assumption) ?_)) | go_size))
    · go_enter Tryd.func16, Tryd.ntmps16
      go_wp2
      go_ret
      refine ⟨by simp [*], ?_⟩
      (repeat' (first | (with_reducible exact Below.refl _ _) | (with_reducible assumption) | (with_reducible refine Below.alloc ?_ ?_ _) | (with_reducible refine Below.drew ?_) | (with_reducible refine Below.setCell ?_ ?_ _) | (with_reducible refine Below.trans ?_ (Below.mono (by assumption) ?_)) | go_size))
  rw [if_neg k2]
  by_cases k3 : k = 3
  · subst k3
    rw [if_pos rfl]
    by_cases h1 : n = 0 <;> by_cases h2 : n = 1 <;> cases he : s.toList == []
    all_goals (first | (exfalso; omega) | skip)
    all_goals
      go_enter Tryd.func16, Tryd.ntmps16
      go_wp2
      go_ret
      refine ⟨by simp [*], ?_⟩
      (repeat' (first | (with_reducible exact Below.refl _ _) | (with_reducible assumption) | (with_reducible refine Below.alloc ?_ ?_ _) | (with_reducible refine Below.drew ?_) | (with_reducible refine Below.setCell ?_ ?_ _) | (with_reducible refine Below.trans ?_ (Below.mono (by assumption) ?_)) | go_size))
  rw [if_neg k3]
  have j0 : (k == 0) = false := by simpa using k0
  have j1 : (k == 1) = false := by simpa using k1
  have j2 : (k == 2) = false := by simpa using k2
  have j3 : (k == 3) = false := by simpa using k3
  go_enter Tryd.func16, Tryd.ntmps16
  go_wp2
  go_ret
  refine ⟨rfl, ?_⟩
  (repeat' (first | (with_reducible exact Below.refl _ _) | (with_reducible assumption) | (with_reducible refine Below.alloc ?_ ?_ _) | (with_reducible refine Below.drew ?_) | (with_reducible refine Below.setCell ?_ ?_ _) | (with_reducible refine Below.trans ?_ (Below.mono (by assumption) ?_)) | go_size))
end Go.Proofs.YtclpemmpckjemaaDoor
