/-
  The reference's ValidValue: what it answers. Conditions: none.
-/
import Derived.Test.YtomiegfblhhhpaaCoV
import Derived.WalkKit
import Derived.WalkSpells
import Derived.WalkLawsBesides
import Derived.Deep.QuietTactic
import Derived.BigQuiet
import Derived.Handy
import Derived.Lib.Hide
namespace Go.Proofs.Ytomiegfblhhhpaa
open Go.RowKit

theorem prn_take_not {s : ByteArray} {k : Nat} (h : k < s.size) (hk : (s[k].toNat : Int) < 32 ∨ 126 < (s[k].toNat : Int)) : prnB s.data.toList = false := by
  unfold prnB
  rw [Bool.eq_false_iff]; intro e
  rw [List.all_eq_true] at e
  have hm : s[k] ∈ s.data.toList := by
    have : s.data.toList[k]'(by simpa using h) ∈ s.data.toList := List.getElem_mem _
    exact this
  have := e _ hm
  simp only [Bool.and_eq_true, decide_eq_true_eq] at this
  omega
theorem prn_step {s : ByteArray} {k : Nat} (h : k < s.size) (hp : prnB (s.data.toList.take k) = true) (h1 : ¬ (s[k].toNat : Int) < 32) (h2 : ¬ 126 < (s[k].toNat : Int)) : prnB (s.data.toList.take (k + 1)) = true := by
  rw [List.take_succ_eq_append_getElem (by simpa using h)]
  unfold prnB at hp ⊢
  rw [List.all_append, hp, List.all_cons, List.all_nil]
  have : s.data.toList[k]'(by simpa using h) = s[k] := rfl
  rw [this, decide_eq_true (by omega), decide_eq_true (by omega)]; rfl
set_option maxHeartbeats 800000 in
theorem rPrn_any (s : ByteArray) (w : World) (hs : s.size < 9223372036854775807) : Calls Try.prog 51 #[.string s] w fun e w' => e = .returned (.bool (prnB s.data.toList)) ∧ w' = w := by
  generalize hR : prnB s.data.toList = R
  have HR := Lib.hid hR
  clear hR
  go_enter Try.func51, Try.ntmps51
  go_wp2
  go_loop [3] (fun i => ∃ k : Nat, k ≤ s.size ∧ i = .int .i64 k ∧ Hid (prnB (s.data.toList.take k) = true)) (fun i => s.size - (intOf i).toNat)
  case atStart => exact ⟨0, Nat.zero_le _, rfl, Lib.hid rfl⟩
  case round =>
    obtain ⟨k, hk, rfl, hd⟩ := hrel
    by_cases hlt : k < s.size
    · by_cases hc1 : (s[k].toNat : Int) < 32
      · go_wp2
        go_ret
        exact ⟨by rw [show R = false by rw [← HR.out, prn_take_not hlt (.inl hc1)]]; rfl, rfl⟩
      · by_cases hc2 : 126 < (s[k].toNat : Int)
        · go_wp2
          go_ret
          exact ⟨by rw [show R = false by rw [← HR.out, prn_take_not hlt (.inr hc2)]]; rfl, rfl⟩
        · go_wp2
          go_round
          case rel => exact ⟨k + 1, by omega, by go_num, Lib.hid (prn_step hlt hd.out hc1 hc2)⟩
          case measure => simp [intOf]; omega
    · go_wp2
      go_ret
      have ht : s.data.toList.take k = s.data.toList := List.take_of_length_le (by rw [← Lib.size_eq]; omega)
      have hd' := hd.out
      rw [ht, HR.out] at hd'
      exact ⟨by rw [hd']; rfl, rfl⟩
set_option maxRecDepth 100000 in
set_option maxHeartbeats 1600000 in
theorem rValid_any (k n : Int) (s : ByteArray) (w : World) : Calls Try.prog 23 #[valV (k, n, s)] w fun e w' => e = .returned (.bool (okP (k, n, s))) ∧ Below w.heap.size w w' := by
  unfold okP valV
  dsimp only
  by_cases k0 : k = 0
  · subst k0
    rw [if_pos rfl]
    by_cases hn : n = 0 <;> cases he : s.toList == []
    all_goals
      go_enter Try.func23, Try.ntmps23
      go_wp2
      go_ret
      refine ⟨by simp [*], ?_⟩
      (repeat' (first | (with_reducible exact Below.refl _ _) | (with_reducible assumption) | (with_reducible refine Below.alloc ?_ ?_ _) | (with_reducible refine Below.drew ?_) | (with_reducible refine Below.setCell ?_ ?_ _) | (with_reducible refine Below.trans ?_ (Below.mono (by assumption) ?_)) | go_size))
  rw [if_neg k0]
  by_cases k1 : k = 1
  · subst k1
    rw [if_pos rfl]
    by_cases h1 : -1125899906842624 ≤ n <;> by_cases h2 : n ≤ 1125899906842624 <;> cases he : s.toList == []
    all_goals (first | (exfalso; omega) | skip)
    all_goals
      go_enter Try.func23, Try.ntmps23
      go_wp2
      go_ret
      refine ⟨by simp [*], ?_⟩
      (repeat' (first | (with_reducible exact Below.refl _ _) | (with_reducible assumption) | (with_reducible refine Below.alloc ?_ ?_ _) | (with_reducible refine Below.drew ?_) | (with_reducible refine Below.setCell ?_ ?_ _) | (with_reducible refine Below.trans ?_ (Below.mono (by assumption) ?_)) | go_size))
  rw [if_neg k1]
  by_cases k2 : k = 2
  · subst k2
    rw [if_pos rfl]
    by_cases hn : n = 0
    · by_cases hs : s.size ≤ 200
      · have hsi : (s.size : Int) ≤ 200 := by omega
        have hP := fun W => rPrn_any s W (by omega)
        cases hp : prnB s.data.toList <;> rw [hp] at hP
        all_goals
          go_enter Try.func23, Try.ntmps23
          go_wp2_with (go_at_call 51; refine (hP _).mono ?_; rintro e w1 ⟨rfl, rfl⟩)
          go_ret
          refine ⟨by simp [*], ?_⟩
          (repeat' (first | (with_reducible exact Below.refl _ _) | (with_reducible assumption) | (with_reducible refine Below.alloc ?_ ?_ _) | (with_reducible refine Below.drew ?_) | (with_reducible refine Below.setCell ?_ ?_ _) | (with_reducible refine Below.trans ?_ (Below.mono (by assumption) ?_)) | go_size))
      · have hsi : ¬ (s.size : Int) ≤ 200 := by omega
        go_enter Try.func23, Try.ntmps23
        go_wp2
        go_ret
        refine ⟨by simp [*], ?_⟩
        (repeat' (first | (with_reducible exact Below.refl _ _) | (with_reducible assumption) | (with_reducible refine Below.alloc ?_ ?_ _) | (with_reducible refine Below.drew ?_) | (with_reducible refine Below.setCell ?_ ?_ _) | (with_reducible refine Below.trans ?_ (Below.mono (by assumption) ?_)) | go_size))
    · go_enter Try.func23, Try.ntmps23
      go_wp2
      go_ret
      refine ⟨by simp [*], ?_⟩
      (repeat' (first | (with_reducible exact Below.refl _ _) | (with_reducible assumption) | (with_reducible refine Below.alloc ?_ ?_ _) | (with_reducible refine Below.drew ?_) | (with_reducible refine Below.setCell ?_ ?_ _) | (with_reducible refine Below.trans ?_ (Below.mono (by assumption) ?_)) | go_size))
  rw [if_neg k2]
  by_cases k3 : k = 3
  · subst k3
    rw [if_pos rfl]
    by_cases h1 : n = 0 <;> by_cases h2 : n = 1 <;> cases he : s.toList == []
    all_goals (first | (exfalso; omega) | skip)
    all_goals
      go_enter Try.func23, Try.ntmps23
      go_wp2
      go_ret
      refine ⟨by simp [*], ?_⟩
      (repeat' (first | (with_reducible exact Below.refl _ _) | (with_reducible assumption) | (with_reducible refine Below.alloc ?_ ?_ _) | (with_reducible refine Below.drew ?_) | (with_reducible refine Below.setCell ?_ ?_ _) | (with_reducible refine Below.trans ?_ (Below.mono (by assumption) ?_)) | go_size))
  rw [if_neg k3]
  have j0 : (k == 0) = false := by simpa using k0
  have j1 : (k == 1) = false := by simpa using k1
  have j2 : (k == 2) = false := by simpa using k2
  have j3 : (k == 3) = false := by simpa using k3
  go_enter Try.func23, Try.ntmps23
  go_wp2
  go_ret
  refine ⟨rfl, ?_⟩
  (repeat' (first | (with_reducible exact Below.refl _ _) | (with_reducible assumption) | (with_reducible refine Below.alloc ?_ ?_ _) | (with_reducible refine Below.drew ?_) | (with_reducible refine Below.setCell ?_ ?_ _) | (with_reducible refine Below.trans ?_ (Below.mono (by assumption) ?_)) | go_size))
end Go.Proofs.Ytomiegfblhhhpaa
