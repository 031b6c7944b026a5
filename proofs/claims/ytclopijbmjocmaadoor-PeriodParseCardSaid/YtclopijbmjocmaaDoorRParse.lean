/-
  Contract of the statements' own Parse: it returns what parseR says of the string's bytes. Conditions: the string is shorter than 4294967281 bytes.
-/
import Derived.Test.YtclopijbmjocmaaDoorDigits
import Derived.WalkKit
import Derived.WalkSpells
import Derived.WalkLawsBesides
import Derived.Deep.QuietTactic
import Derived.BigQuiet
import Derived.Handy
import Derived.Lib.Hide
namespace Go.Proofs.YtclopijbmjocmaaDoor
open Go.RowKit

theorem digits_1 (s : ByteArray) (w : World) (h : 1 ≤ s.size) (hs : s.size < 4294967281) :
    Calls Tryd.prog 38 #[.string s, .int .i64 1] w fun e w' => e = .returned (.tuple #[.int .i64 (digN s.data.toList 1), .int .i64 (digE s.data.toList 1)]) ∧ w = w' :=
  digits_any s 1 w h (by omega)
theorem digits_2 (s : ByteArray) (j : Nat) (w : World) (h : j + 2 ≤ s.size) (hs : s.size < 4294967281) :
    Calls Tryd.prog 38 #[.string s, .int .i64 ((j : Int) + 2)] w fun e w' => e = .returned (.tuple #[.int .i64 (digN s.data.toList (j + 2)), .int .i64 (digE s.data.toList (j + 2))]) ∧ w = w' := by
  have := digits_any s (j + 2) w h (by omega)
  rwa [show ((j + 2 : Nat) : Int) = (j : Int) + 2 from by omega] at this

theorem digE_cases (s : ByteArray) (i : Nat) (hi : i ≤ s.size) : digE s.data.toList i = -1 ∨ ∃ j : Nat, digE s.data.toList i = (j : Int) ∧ j ≤ s.size := by
  unfold digE
  cases hb : badRun (s.data.toList.drop i)
  · right
    refine ⟨i + (runD (s.data.toList.drop i)).length, by simp, ?_⟩
    obtain ⟨t, ht, _⟩ := run_split (s.data.toList.drop i)
    have h1 := congrArg List.length ht
    rw [List.length_append, List.length_drop, ← Lib.size_eq] at h1
    omega
  · left; simp
theorem digN_bd (l : List UInt8) (i : Nat) : 0 ≤ digN l i ∧ digN l i ≤ 1099511627776 := by
  unfold digN
  cases badRun (l.drop i)
  · obtain ⟨t, _, ha⟩ := run_split (l.drop i)
    simpa using numVal_bd ha
  · simp

theorem ext_take (s : ByteArray) (j : Nat) : (s.extract j (j + 2)).toList = (s.data.toList.drop j).take 2 := by
  rw [Lib.extract_toList, Nat.add_sub_cancel_left]
theorem ext_drop (s : ByteArray) (j : Nat) : (s.extract j s.size).toList = s.data.toList.drop j := by
  rw [Lib.extract_toList, List.take_of_length_le]; rw [List.length_drop, ← Lib.size_eq]; omega

set_option maxHeartbeats 800000 in
theorem rp_empty (s : ByteArray) (w : World) (_hs : s.size < 4294967281) (h0 : s.size = 0) (HP : Hid (parseR s.data.toList = (0, 0, 1))) :
    Calls Tryd.prog 32 #[.string s] w fun e w' => e = .returned (perErr (parseR s.data.toList)) ∧ Below w.heap.size w w' := by
  go_enter Tryd.func32, Tryd.ntmps32
  go_wp2_with fail
  refine bodyPost_ret (v := perErr (0, 0, 1)) (by simp [results, Tryd.results32, go_sem, perErr, *]) rfl ⟨ret_pe HP.out.symm, ?_⟩
  (repeat' (first | (with_reducible exact Below.refl _ _) | (with_reducible assumption) | (with_reducible refine Below.alloc ?_ ?_ _) | (with_reducible refine Below.drew ?_) | (with_reducible refine Below.setCell ?_ ?_ _) | (with_reducible refine Below.trans ?_ (Below.mono (by assumption) ?_)) | go_size))

set_option maxHeartbeats 800000 in
theorem rp_head (s : ByteArray) (w : World) (_hs : s.size < 4294967281) (h0 : 0 < s.size) (h91 : ¬ (s[0].toNat : Int) = 91) (HP : Hid (parseR s.data.toList = (0, 0, 1))) :
    Calls Tryd.prog 32 #[.string s] w fun e w' => e = .returned (perErr (parseR s.data.toList)) ∧ Below w.heap.size w w' := by
  have hz : ((s.size : Int) == 0) = false := beq_eq_false_iff_ne.2 (by omega)
  have hz2 : ¬ s = ByteArray.empty := by intro e; subst e; exact absurd h0 (by decide)
  go_enter Tryd.func32, Tryd.ntmps32
  go_wp2_with fail
  refine bodyPost_ret (v := perErr (0, 0, 1)) (by simp [results, Tryd.results32, go_sem, perErr, *]) rfl ⟨ret_pe HP.out.symm, ?_⟩
  (repeat' (first | (with_reducible exact Below.refl _ _) | (with_reducible assumption) | (with_reducible refine Below.alloc ?_ ?_ _) | (with_reducible refine Below.drew ?_) | (with_reducible refine Below.setCell ?_ ?_ _) | (with_reducible refine Below.trans ?_ (Below.mono (by assumption) ?_)) | go_size))

set_option maxHeartbeats 800000 in
theorem rp_none (s : ByteArray) (w : World) (hs : s.size < 4294967281) (h0 : 0 < s.size) (h91 : (s[0].toNat : Int) = 91) (he : digE s.data.toList 1 = -1) (HP : Hid (parseR s.data.toList = (0, 0, 1))) :
    Calls Tryd.prog 32 #[.string s] w fun e w' => e = .returned (perErr (parseR s.data.toList)) ∧ Below w.heap.size w w' := by
  have hz : ((s.size : Int) == 0) = false := beq_eq_false_iff_ne.2 (by omega)
  have hz2 : ¬ s = ByteArray.empty := by intro e; subst e; exact absurd h0 (by decide)
  go_enter Tryd.func32, Tryd.ntmps32
  go_wp2_with fail
  refine (digits_1 s _ (by omega) hs).mono ?_
  rintro e w1 ⟨rfl, rfl⟩
  go_wp2_with fail
  refine bodyPost_ret (v := perErr (0, 0, 1)) (by simp [results, Tryd.results32, go_sem, perErr, *]) rfl ⟨ret_pe HP.out.symm, ?_⟩
  (repeat' (first | (with_reducible exact Below.refl _ _) | (with_reducible assumption) | (with_reducible refine Below.alloc ?_ ?_ _) | (with_reducible refine Below.drew ?_) | (with_reducible refine Below.setCell ?_ ?_ _) | (with_reducible refine Below.trans ?_ (Below.mono (by assumption) ?_)) | go_size))

set_option maxHeartbeats 800000 in
theorem rp_short (s : ByteArray) (w : World) (hs : s.size < 4294967281) (h0 : 0 < s.size) (h91 : (s[0].toNat : Int) = 91) (j : Nat) (hj : digE s.data.toList 1 = (j : Int)) (hjs : j ≤ s.size) (h2 : ¬ j + 2 ≤ s.size) (HP : Hid (parseR s.data.toList = (0, 0, 1))) :
    Calls Tryd.prog 32 #[.string s] w fun e w' => e = .returned (perErr (parseR s.data.toList)) ∧ Below w.heap.size w w' := by
  have hz : ((s.size : Int) == 0) = false := beq_eq_false_iff_ne.2 (by omega)
  have hz2 : ¬ s = ByteArray.empty := by intro e; subst e; exact absurd h0 (by decide)
  go_enter Tryd.func32, Tryd.ntmps32
  go_wp2_with fail
  refine (digits_1 s _ (by omega) hs).mono ?_
  rintro e w1 ⟨rfl, rfl⟩
  go_wp2_with fail
  refine bodyPost_ret (v := perErr (0, 0, 1)) (by simp [results, Tryd.results32, go_sem, perErr, *]) rfl ⟨ret_pe HP.out.symm, ?_⟩
  (repeat' (first | (with_reducible exact Below.refl _ _) | (with_reducible assumption) | (with_reducible refine Below.alloc ?_ ?_ _) | (with_reducible refine Below.drew ?_) | (with_reducible refine Below.setCell ?_ ?_ _) | (with_reducible refine Below.trans ?_ (Below.mono (by assumption) ?_)) | go_size))

set_option maxHeartbeats 800000 in
theorem rp_comma (s : ByteArray) (w : World) (hs : s.size < 4294967281) (h0 : 0 < s.size) (h91 : (s[0].toNat : Int) = 91) (j : Nat) (hj : digE s.data.toList 1 = (j : Int)) (hjs : j ≤ s.size) (h2 : j + 2 ≤ s.size) (hc : ((s.extract j (j + 2)).toList == [44, 32]) = false) (HP : Hid (parseR s.data.toList = (0, 0, 1))) :
    Calls Tryd.prog 32 #[.string s] w fun e w' => e = .returned (perErr (parseR s.data.toList)) ∧ Below w.heap.size w w' := by
  have hz : ((s.size : Int) == 0) = false := beq_eq_false_iff_ne.2 (by omega)
  have hz2 : ¬ s = ByteArray.empty := by intro e; subst e; exact absurd h0 (by decide)
  go_enter Tryd.func32, Tryd.ntmps32
  go_wp2_with fail
  refine (digits_1 s _ (by omega) hs).mono ?_
  rintro e w1 ⟨rfl, rfl⟩
  go_wp2_with fail
  refine bodyPost_ret (v := perErr (0, 0, 1)) (by simp [results, Tryd.results32, go_sem, perErr, *]) rfl ⟨ret_pe HP.out.symm, ?_⟩
  (repeat' (first | (with_reducible exact Below.refl _ _) | (with_reducible assumption) | (with_reducible refine Below.alloc ?_ ?_ _) | (with_reducible refine Below.drew ?_) | (with_reducible refine Below.setCell ?_ ?_ _) | (with_reducible refine Below.trans ?_ (Below.mono (by assumption) ?_)) | go_size))

set_option maxHeartbeats 800000 in
theorem rp_far (s : ByteArray) (w : World) (hs : s.size < 4294967281) (h0 : 0 < s.size) (h91 : (s[0].toNat : Int) = 91) (j : Nat) (hj : digE s.data.toList 1 = (j : Int)) (hjs : j ≤ s.size) (h2 : j + 2 ≤ s.size) (hc : ((s.extract j (j + 2)).toList == [44, 32]) = true) (hf : ((s.extract (j + 2) s.size).toList == [102, 111, 114, 101, 118, 101, 114, 41]) = true) (hn : 1099511627776 ≤ digN s.data.toList 1) (HP : Hid (parseR s.data.toList = (0, 0, 6))) :
    Calls Tryd.prog 32 #[.string s] w fun e w' => e = .returned (perErr (parseR s.data.toList)) ∧ Below w.heap.size w w' := by
  have hz : ((s.size : Int) == 0) = false := beq_eq_false_iff_ne.2 (by omega)
  have hz2 : ¬ s = ByteArray.empty := by intro e; subst e; exact absurd h0 (by decide)
  go_enter Tryd.func32, Tryd.ntmps32
  go_wp2_with fail
  refine (digits_1 s _ (by omega) hs).mono ?_
  rintro e w1 ⟨rfl, rfl⟩
  go_wp2_with fail
  refine bodyPost_ret (v := perErr (0, 0, 6)) (by simp [results, Tryd.results32, go_sem, perErr, *]) rfl ⟨ret_pe HP.out.symm, ?_⟩
  (repeat' (first | (with_reducible exact Below.refl _ _) | (with_reducible assumption) | (with_reducible refine Below.alloc ?_ ?_ _) | (with_reducible refine Below.drew ?_) | (with_reducible refine Below.setCell ?_ ?_ _) | (with_reducible refine Below.trans ?_ (Below.mono (by assumption) ?_)) | go_size))

set_option maxHeartbeats 800000 in
theorem rp_ever (s : ByteArray) (w : World) (hs : s.size < 4294967281) (h0 : 0 < s.size) (h91 : (s[0].toNat : Int) = 91) (j : Nat) (hj : digE s.data.toList 1 = (j : Int)) (hjs : j ≤ s.size) (h2 : j + 2 ≤ s.size) (hc : ((s.extract j (j + 2)).toList == [44, 32]) = true) (hf : ((s.extract (j + 2) s.size).toList == [102, 111, 114, 101, 118, 101, 114, 41]) = true) (hn : ¬ 1099511627776 ≤ digN s.data.toList 1) (HP : Hid (parseR s.data.toList = (digN s.data.toList 1, 1099511627776, 0))) :
    Calls Tryd.prog 32 #[.string s] w fun e w' => e = .returned (perErr (parseR s.data.toList)) ∧ Below w.heap.size w w' := by
  have hz : ((s.size : Int) == 0) = false := beq_eq_false_iff_ne.2 (by omega)
  have hz2 : ¬ s = ByteArray.empty := by intro e; subst e; exact absurd h0 (by decide)
  go_enter Tryd.func32, Tryd.ntmps32
  go_wp2_with fail
  refine (digits_1 s _ (by omega) hs).mono ?_
  rintro e w1 ⟨rfl, rfl⟩
  go_wp2_with fail
  refine bodyPost_ret (v := perErr (digN s.data.toList 1, 1099511627776, 0)) (by simp [results, Tryd.results32, go_sem, perErr, *]) rfl ⟨ret_pe HP.out.symm, ?_⟩
  (repeat' (first | (with_reducible exact Below.refl _ _) | (with_reducible assumption) | (with_reducible refine Below.alloc ?_ ?_ _) | (with_reducible refine Below.drew ?_) | (with_reducible refine Below.setCell ?_ ?_ _) | (with_reducible refine Below.trans ?_ (Below.mono (by assumption) ?_)) | go_size))

set_option maxHeartbeats 800000 in
theorem rp_none2 (s : ByteArray) (w : World) (hs : s.size < 4294967281) (h0 : 0 < s.size) (h91 : (s[0].toNat : Int) = 91) (j : Nat) (hj : digE s.data.toList 1 = (j : Int)) (hjs : j ≤ s.size) (h2 : j + 2 ≤ s.size) (hc : ((s.extract j (j + 2)).toList == [44, 32]) = true) (hf : ((s.extract (j + 2) s.size).toList == [102, 111, 114, 101, 118, 101, 114, 41]) = false) (he : digE s.data.toList (j + 2) = -1) (HP : Hid (parseR s.data.toList = (0, 0, 1))) :
    Calls Tryd.prog 32 #[.string s] w fun e w' => e = .returned (perErr (parseR s.data.toList)) ∧ Below w.heap.size w w' := by
  have hz : ((s.size : Int) == 0) = false := beq_eq_false_iff_ne.2 (by omega)
  have hz2 : ¬ s = ByteArray.empty := by intro e; subst e; exact absurd h0 (by decide)
  go_enter Tryd.func32, Tryd.ntmps32
  go_wp2_with fail
  refine (digits_1 s _ (by omega) hs).mono ?_
  rintro e w1 ⟨rfl, rfl⟩
  go_wp2_with fail
  refine (digits_2 s j _ (by omega) hs).mono ?_
  rintro e w1 ⟨rfl, rfl⟩
  go_wp2_with fail
  refine bodyPost_ret (v := perErr (0, 0, 1)) (by simp [results, Tryd.results32, go_sem, perErr, *]) rfl ⟨ret_pe HP.out.symm, ?_⟩
  (repeat' (first | (with_reducible exact Below.refl _ _) | (with_reducible assumption) | (with_reducible refine Below.alloc ?_ ?_ _) | (with_reducible refine Below.drew ?_) | (with_reducible refine Below.setCell ?_ ?_ _) | (with_reducible refine Below.trans ?_ (Below.mono (by assumption) ?_)) | go_size))

set_option maxHeartbeats 800000 in
theorem rp_close (s : ByteArray) (w : World) (hs : s.size < 4294967281) (h0 : 0 < s.size) (h91 : (s[0].toNat : Int) = 91) (j : Nat) (hj : digE s.data.toList 1 = (j : Int)) (hjs : j ≤ s.size) (h2 : j + 2 ≤ s.size) (hc : ((s.extract j (j + 2)).toList == [44, 32]) = true) (hf : ((s.extract (j + 2) s.size).toList == [102, 111, 114, 101, 118, 101, 114, 41]) = false) (k : Nat) (hk : digE s.data.toList (j + 2) = (k : Int)) (hks : k ≤ s.size) (hp : ((s.extract k s.size).toList == [41]) = false) (HP : Hid (parseR s.data.toList = (0, 0, 1))) :
    Calls Tryd.prog 32 #[.string s] w fun e w' => e = .returned (perErr (parseR s.data.toList)) ∧ Below w.heap.size w w' := by
  have hz : ((s.size : Int) == 0) = false := beq_eq_false_iff_ne.2 (by omega)
  have hz2 : ¬ s = ByteArray.empty := by intro e; subst e; exact absurd h0 (by decide)
  go_enter Tryd.func32, Tryd.ntmps32
  go_wp2_with fail
  refine (digits_1 s _ (by omega) hs).mono ?_
  rintro e w1 ⟨rfl, rfl⟩
  go_wp2_with fail
  refine (digits_2 s j _ (by omega) hs).mono ?_
  rintro e w1 ⟨rfl, rfl⟩
  go_wp2_with fail
  refine bodyPost_ret (v := perErr (0, 0, 1)) (by simp [results, Tryd.results32, go_sem, perErr, *]) rfl ⟨ret_pe HP.out.symm, ?_⟩
  (repeat' (first | (with_reducible exact Below.refl _ _) | (with_reducible assumption) | (with_reducible refine Below.alloc ?_ ?_ _) | (with_reducible refine Below.drew ?_) | (with_reducible refine Below.setCell ?_ ?_ _) | (with_reducible refine Below.trans ?_ (Below.mono (by assumption) ?_)) | go_size))

set_option maxHeartbeats 800000 in
theorem rp_order (s : ByteArray) (w : World) (hs : s.size < 4294967281) (h0 : 0 < s.size) (h91 : (s[0].toNat : Int) = 91) (j : Nat) (hj : digE s.data.toList 1 = (j : Int)) (hjs : j ≤ s.size) (h2 : j + 2 ≤ s.size) (hc : ((s.extract j (j + 2)).toList == [44, 32]) = true) (hf : ((s.extract (j + 2) s.size).toList == [102, 111, 114, 101, 118, 101, 114, 41]) = false) (k : Nat) (hk : digE s.data.toList (j + 2) = (k : Int)) (hks : k ≤ s.size) (hp : ((s.extract k s.size).toList == [41]) = true) (hn : digN s.data.toList (j + 2) ≤ digN s.data.toList 1) (HP : Hid (parseR s.data.toList = (0, 0, 6))) :
    Calls Tryd.prog 32 #[.string s] w fun e w' => e = .returned (perErr (parseR s.data.toList)) ∧ Below w.heap.size w w' := by
  have hz : ((s.size : Int) == 0) = false := beq_eq_false_iff_ne.2 (by omega)
  have hz2 : ¬ s = ByteArray.empty := by intro e; subst e; exact absurd h0 (by decide)
  go_enter Tryd.func32, Tryd.ntmps32
  go_wp2_with fail
  refine (digits_1 s _ (by omega) hs).mono ?_
  rintro e w1 ⟨rfl, rfl⟩
  go_wp2_with fail
  refine (digits_2 s j _ (by omega) hs).mono ?_
  rintro e w1 ⟨rfl, rfl⟩
  go_wp2_with fail
  refine bodyPost_ret (v := perErr (0, 0, 6)) (by simp [results, Tryd.results32, go_sem, perErr, *]) rfl ⟨ret_pe HP.out.symm, ?_⟩
  (repeat' (first | (with_reducible exact Below.refl _ _) | (with_reducible assumption) | (with_reducible refine Below.alloc ?_ ?_ _) | (with_reducible refine Below.drew ?_) | (with_reducible refine Below.setCell ?_ ?_ _) | (with_reducible refine Below.trans ?_ (Below.mono (by assumption) ?_)) | go_size))

set_option maxHeartbeats 800000 in
theorem rp_late (s : ByteArray) (w : World) (hs : s.size < 4294967281) (h0 : 0 < s.size) (h91 : (s[0].toNat : Int) = 91) (j : Nat) (hj : digE s.data.toList 1 = (j : Int)) (hjs : j ≤ s.size) (h2 : j + 2 ≤ s.size) (hc : ((s.extract j (j + 2)).toList == [44, 32]) = true) (hf : ((s.extract (j + 2) s.size).toList == [102, 111, 114, 101, 118, 101, 114, 41]) = false) (k : Nat) (hk : digE s.data.toList (j + 2) = (k : Int)) (hks : k ≤ s.size) (hp : ((s.extract k s.size).toList == [41]) = true) (hn : ¬ digN s.data.toList (j + 2) ≤ digN s.data.toList 1) (hm : 1099511627776 ≤ digN s.data.toList (j + 2)) (HP : Hid (parseR s.data.toList = (0, 0, 6))) :
    Calls Tryd.prog 32 #[.string s] w fun e w' => e = .returned (perErr (parseR s.data.toList)) ∧ Below w.heap.size w w' := by
  have hz : ((s.size : Int) == 0) = false := beq_eq_false_iff_ne.2 (by omega)
  have hz2 : ¬ s = ByteArray.empty := by intro e; subst e; exact absurd h0 (by decide)
  go_enter Tryd.func32, Tryd.ntmps32
  go_wp2_with fail
  refine (digits_1 s _ (by omega) hs).mono ?_
  rintro e w1 ⟨rfl, rfl⟩
  go_wp2_with fail
  refine (digits_2 s j _ (by omega) hs).mono ?_
  rintro e w1 ⟨rfl, rfl⟩
  go_wp2_with fail
  refine bodyPost_ret (v := perErr (0, 0, 6)) (by simp [results, Tryd.results32, go_sem, perErr, *]) rfl ⟨ret_pe HP.out.symm, ?_⟩
  (repeat' (first | (with_reducible exact Below.refl _ _) | (with_reducible assumption) | (with_reducible refine Below.alloc ?_ ?_ _) | (with_reducible refine Below.drew ?_) | (with_reducible refine Below.setCell ?_ ?_ _) | (with_reducible refine Below.trans ?_ (Below.mono (by assumption) ?_)) | go_size))

set_option maxHeartbeats 800000 in
theorem rp_fine (s : ByteArray) (w : World) (hs : s.size < 4294967281) (h0 : 0 < s.size) (h91 : (s[0].toNat : Int) = 91) (j : Nat) (hj : digE s.data.toList 1 = (j : Int)) (hjs : j ≤ s.size) (h2 : j + 2 ≤ s.size) (hc : ((s.extract j (j + 2)).toList == [44, 32]) = true) (hf : ((s.extract (j + 2) s.size).toList == [102, 111, 114, 101, 118, 101, 114, 41]) = false) (k : Nat) (hk : digE s.data.toList (j + 2) = (k : Int)) (hks : k ≤ s.size) (hp : ((s.extract k s.size).toList == [41]) = true) (hn : ¬ digN s.data.toList (j + 2) ≤ digN s.data.toList 1) (hm : ¬ 1099511627776 ≤ digN s.data.toList (j + 2)) (HP : Hid (parseR s.data.toList = (digN s.data.toList 1, digN s.data.toList (j + 2), 0))) :
    Calls Tryd.prog 32 #[.string s] w fun e w' => e = .returned (perErr (parseR s.data.toList)) ∧ Below w.heap.size w w' := by
  have hz : ((s.size : Int) == 0) = false := beq_eq_false_iff_ne.2 (by omega)
  have hz2 : ¬ s = ByteArray.empty := by intro e; subst e; exact absurd h0 (by decide)
  go_enter Tryd.func32, Tryd.ntmps32
  go_wp2_with fail
  refine (digits_1 s _ (by omega) hs).mono ?_
  rintro e w1 ⟨rfl, rfl⟩
  go_wp2_with fail
  refine (digits_2 s j _ (by omega) hs).mono ?_
  rintro e w1 ⟨rfl, rfl⟩
  go_wp2_with fail
  refine bodyPost_ret (v := perErr (digN s.data.toList 1, digN s.data.toList (j + 2), 0)) (by simp [results, Tryd.results32, go_sem, perErr, *]) rfl ⟨ret_pe HP.out.symm, ?_⟩
  (repeat' (first | (with_reducible exact Below.refl _ _) | (with_reducible assumption) | (with_reducible refine Below.alloc ?_ ?_ _) | (with_reducible refine Below.drew ?_) | (with_reducible refine Below.setCell ?_ ?_ _) | (with_reducible refine Below.trans ?_ (Below.mono (by assumption) ?_)) | go_size))

theorem short_take (s : ByteArray) (j : Nat) (h : ¬ j + 2 ≤ s.size) : ((s.data.toList.drop j).take 2 == [44, 32]) = false := by
  rw [beq_eq_false_iff_ne]; intro e
  have := congrArg List.length e
  rw [List.length_take, List.length_drop, ← Lib.size_eq] at this
  simp at this; omega

/-- The definition's Parse, at every string that is short enough. -/
theorem rparse_s (s : ByteArray) (w : World) (hs : s.size < 4294967281) :
    Calls Tryd.prog 32 #[.string s] w fun e w' => e = .returned (perErr (parseR s.data.toList)) ∧ Below w.heap.size w w' := by
  by_cases h0 : 0 < s.size
  · by_cases h91 : (s[0].toNat : Int) = 91
    · have hh : s.data.toList.head? = some 91 := by
        rw [head_at s h0]
        congr 1
        apply UInt8.toNat_inj.1
        have : (91 : UInt8).toNat = 91 := rfl
        omega
      rcases digE_cases s 1 (by omega) with he | ⟨j, hj, hjs⟩
      · exact rp_none s w hs h0 h91 he (Lib.hid (by unfold parseR; rw [if_pos hh, if_pos (by rw [he]; decide)]))
      · have tj : (digE s.data.toList 1).toNat = j := by rw [hj]; omega
        have nj : ¬ digE s.data.toList 1 < 0 := by rw [hj]; omega
        by_cases h2 : j + 2 ≤ s.size
        · cases hc : ((s.extract j (j + 2)).toList == [44, 32])
          · exact rp_comma s w hs h0 h91 j hj hjs h2 hc (Lib.hid (by unfold parseR; rw [if_pos hh, if_neg nj, tj, if_pos (by rw [← ext_take]; exact hc)]))
          · have hc' : ¬ ((s.data.toList.drop j).take 2 == [44, 32]) = false := by rw [← ext_take, hc]; decide
            cases hf : ((s.extract (j + 2) s.size).toList == [102, 111, 114, 101, 118, 101, 114, 41])
            · have hf' : ¬ (s.data.toList.drop (j + 2) == sForever ++ [41]) = true := by rw [← ext_drop]; show ¬ ((s.extract (j + 2) s.size).toList == [102, 111, 114, 101, 118, 101, 114, 41]) = true; rw [hf]; decide
              rcases digE_cases s (j + 2) h2 with he | ⟨k, hk, hks⟩
              · exact rp_none2 s w hs h0 h91 j hj hjs h2 hc hf he (Lib.hid (by unfold parseR; rw [if_pos hh, if_neg nj, tj, if_neg hc', if_neg hf', if_pos (by rw [he]; decide)]))
              · have tk : (digE s.data.toList (j + 2)).toNat = k := by rw [hk]; omega
                have nk : ¬ digE s.data.toList (j + 2) < 0 := by rw [hk]; omega
                cases hp : ((s.extract k s.size).toList == [41])
                · exact rp_close s w hs h0 h91 j hj hjs h2 hc hf k hk hks hp (Lib.hid (by unfold parseR; rw [if_pos hh, if_neg nj, tj, if_neg hc', if_neg hf', if_neg nk, tk, if_pos (by rw [← ext_drop]; exact hp)]))
                · have hp' : ¬ (s.data.toList.drop k == [41]) = false := by rw [← ext_drop, hp]; decide
                  by_cases hn : digN s.data.toList (j + 2) ≤ digN s.data.toList 1
                  · exact rp_order s w hs h0 h91 j hj hjs h2 hc hf k hk hks hp hn (Lib.hid (by unfold parseR; rw [if_pos hh, if_neg nj, tj, if_neg hc', if_neg hf', if_neg nk, tk, if_neg hp', if_pos hn]))
                  · by_cases hm : 1099511627776 ≤ digN s.data.toList (j + 2)
                    · exact rp_late s w hs h0 h91 j hj hjs h2 hc hf k hk hks hp hn hm (Lib.hid (by unfold parseR; rw [if_pos hh, if_neg nj, tj, if_neg hc', if_neg hf', if_neg nk, tk, if_neg hp', if_neg hn, if_pos hm]))
                    · exact rp_fine s w hs h0 h91 j hj hjs h2 hc hf k hk hks hp hn hm (Lib.hid (by unfold parseR; rw [if_pos hh, if_neg nj, tj, if_neg hc', if_neg hf', if_neg nk, tk, if_neg hp', if_neg hn, if_neg hm]))
            · have hf' : (s.data.toList.drop (j + 2) == sForever ++ [41]) = true := by rw [← ext_drop]; exact hf
              by_cases hn : 1099511627776 ≤ digN s.data.toList 1
              · exact rp_far s w hs h0 h91 j hj hjs h2 hc hf hn (Lib.hid (by unfold parseR; rw [if_pos hh, if_neg nj, tj, if_neg hc', if_pos hf', if_pos hn]))
              · exact rp_ever s w hs h0 h91 j hj hjs h2 hc hf hn (Lib.hid (by unfold parseR; rw [if_pos hh, if_neg nj, tj, if_neg hc', if_pos hf', if_neg hn]))
        · exact rp_short s w hs h0 h91 j hj hjs h2 (Lib.hid (by unfold parseR; rw [if_pos hh, if_neg nj, tj, if_pos (short_take s j h2)]))
    · refine rp_head s w hs h0 h91 (Lib.hid ?_)
      unfold parseR
      rw [if_neg]
      rw [head_at s h0]
      intro e
      injection e with e
      rw [e] at h91; exact h91 rfl
  · refine rp_empty s w hs (by omega) (Lib.hid ?_)
    unfold parseR
    rw [empty_of_size h0]; rfl
end Go.Proofs.YtclopijbmjocmaaDoor
