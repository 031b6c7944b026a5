/-
  Contracts of period's number, checked and bounds, and of the statements' own digits: reading a number without leading zeros. Conditions: none.
-/
import Derived.Test.YtclopijbmjocmaaDoorPer1
import Derived.Test.YtclopijbmjocmaaDoorShelf
import Derived.Test.YtclopijbmjocmaaDoorPure
import Derived.Test.YtclopijbmjocmaaDoorEnv
import Derived.WalkKit
import Derived.WalkSpells
import Derived.WalkLawsBesides
import Derived.Deep.QuietTactic
import Derived.BigQuiet
import Derived.Handy
import Derived.Lib.Hide
namespace Go.Proofs.YtclopijbmjocmaaDoor
open Go.RowKit

set_option maxHeartbeats 400000 in
theorem num_any (s : ByteArray) (w : World) (hs : s.size ≤ maxLen) :
    Calls Tryd.prog 35 #[.string s] w fun e w' => e = .returned (numRes s.data.toList) ∧ w' = w := by
  unfold maxLen at hs
  by_cases h0 : 0 < s.size
  · have he : ¬ s.toList = [] := by rw [Lib.toList_data]; intro e; have := size_of_empty e; omega
    have he2 : s.toList.isEmpty = false := by rw [Bool.eq_false_iff]; intro e; exact he (List.isEmpty_iff.1 e)
    by_cases h48 : (s[0].toNat : Int) = 48
    · cases hz : (s.toList == [48])
      · have HB := Lib.hid (numOk_bad (bad_48 h0 h48 hz))
        go_enter Tryd.func35, Tryd.ntmps35
        go_wp2
        go_ret2
        exact ⟨congrArg Ending.returned (numRes_no HB.out).symm, rfl⟩
      · have HB := Lib.hid (bad_zero hz)
        go_enter Tryd.func35, Tryd.ntmps35
        go_wp2
        go_loop [4, 19] (fun n i => ∃ k : Nat, k ≤ s.size ∧ i = .int .i64 k ∧ n = .int .i64 (numVal (s.data.toList.take k)) ∧ Hid ((s.data.toList.take k).all isDig = true)) (fun _ i => s.size - (intOf i).toNat)
        case atStart => exact ⟨0, Nat.zero_le _, rfl, rfl, Lib.hid rfl⟩
        case round =>
          obtain ⟨k, hk, rfl, rfl, hd⟩ := hrel
          by_cases hlt : k < s.size
          · have hb := numVal_bd hd.out
            obtain ⟨hb1, hb2⟩ := hb
            by_cases hc1 : (s[k].toNat : Int) < 48
            · go_wp2
              go_ret2
              exact ⟨congrArg Ending.returned (numRes_no (numOk_not hlt (dig_lo hc1))).symm, rfl⟩
            · by_cases hc2 : 57 < (s[k].toNat : Int)
              · go_wp2
                go_ret2
                exact ⟨congrArg Ending.returned (numRes_no (numOk_not hlt (dig_hi hc2))).symm, rfl⟩
              · go_wp2
                go_round
                case rel => exact ⟨k + 1, by omega, by go_num, congrArg (Value.int .i64) (val_step hlt), Lib.hid (all_step hlt hd.out (dig_in hc1 hc2))⟩
                case measure => simp [intOf]; omega
          · go_wp2
            go_ret2
            have ht := take_all (s := s) (k := k) (by omega)
            have hd' := hd.out
            rw [ht] at hd'
            exact ⟨by rw [numRes_yes (numOk_good HB.out hd')]; exact congrArg (fun l => Ending.returned (Value.tuple #[.int .i64 (numVal l), .bool true])) ht, rfl⟩
    · have HB := Lib.hid (bad_not48 h0 h48)
      go_enter Tryd.func35, Tryd.ntmps35
      go_wp2
      go_loop [4, 19] (fun n i => ∃ k : Nat, k ≤ s.size ∧ i = .int .i64 k ∧ n = .int .i64 (numVal (s.data.toList.take k)) ∧ Hid ((s.data.toList.take k).all isDig = true)) (fun _ i => s.size - (intOf i).toNat)
      case atStart => exact ⟨0, Nat.zero_le _, rfl, rfl, Lib.hid rfl⟩
      case round =>
        obtain ⟨k, hk, rfl, rfl, hd⟩ := hrel
        by_cases hlt : k < s.size
        · have hb := numVal_bd hd.out
          obtain ⟨hb1, hb2⟩ := hb
          by_cases hc1 : (s[k].toNat : Int) < 48
          · go_wp2
            go_ret2
            exact ⟨congrArg Ending.returned (numRes_no (numOk_not hlt (dig_lo hc1))).symm, rfl⟩
          · by_cases hc2 : 57 < (s[k].toNat : Int)
            · go_wp2
              go_ret2
              exact ⟨congrArg Ending.returned (numRes_no (numOk_not hlt (dig_hi hc2))).symm, rfl⟩
            · go_wp2
              go_round
              case rel => exact ⟨k + 1, by omega, by go_num, congrArg (Value.int .i64) (val_step hlt), Lib.hid (all_step hlt hd.out (dig_in hc1 hc2))⟩
              case measure => simp [intOf]; omega
        · go_wp2
          go_ret2
          have ht := take_all (s := s) (k := k) (by omega)
          have hd' := hd.out
          rw [ht] at hd'
          exact ⟨by rw [numRes_yes (numOk_good HB.out hd')]; exact congrArg (fun l => Ending.returned (Value.tuple #[.int .i64 (numVal l), .bool true])) ht, rfl⟩
  · have hE := empty_of_size h0
    have he : s.toList = [] := by rw [Lib.toList_data]; exact hE
    have HE := Lib.hid hE
    clear hE
    go_enter Tryd.func35, Tryd.ntmps35
    go_wp2
    go_ret2
    exact ⟨by rw [HE.out]; rfl, rfl⟩

theorem checked_yes (a b : Int) (w : World) (h : vld a b = true) :
    Calls Tryd.prog 36 #[.agg #[.int .i64 a, .int .i64 b]] w fun e w' => e = .returned (.tuple #[.agg #[.int .i64 a, .int .i64 b], .int .i64 0]) ∧ Below w.heap.size w w' := by
  go_enter Tryd.func36, Tryd.ntmps36
  go_wp2_with (go_at_call 9; refine (valid_any _ _ _).mono ?_; rintro e w1 ⟨rfl, hb⟩; obtain ⟨hc, hf⟩ := bcell hb; have hz := hb.size; (try simp only [World.size_alloc] at hz); have hz0 : w.heap.size < w1.heap.size := (by omega); have hz1 : w.heap.size + 1 < w1.heap.size := (by omega))
  refine bodyPost_ret (v := .tuple #[.agg #[.int .i64 a, .int .i64 b], .int .i64 0]) (by simp [results, Tryd.results36, go_sem, *]) rfl ⟨rfl, ?_⟩
  (repeat' (first | (with_reducible exact Below.refl _ _) | (with_reducible assumption) | (with_reducible refine Below.alloc ?_ ?_ _) | (with_reducible refine Below.drew ?_) | (with_reducible refine Below.setCell ?_ ?_ _) | (with_reducible refine Below.trans ?_ (Below.mono (by assumption) ?_)) | go_size))
theorem checked_no (a b : Int) (w : World) (h : vld a b = false) :
    Calls Tryd.prog 36 #[.agg #[.int .i64 a, .int .i64 b]] w fun e w' => e = .returned (.tuple #[.agg #[.int .i64 0, .int .i64 0], .int .i64 6]) ∧ Below w.heap.size w w' := by
  go_enter Tryd.func36, Tryd.ntmps36
  go_wp2_with (go_at_call 9; refine (valid_any _ _ _).mono ?_; rintro e w1 ⟨rfl, hb⟩; obtain ⟨hc, hf⟩ := bcell hb; have hz := hb.size; (try simp only [World.size_alloc] at hz); have hz0 : w.heap.size < w1.heap.size := (by omega); have hz1 : w.heap.size + 1 < w1.heap.size := (by omega))
  refine bodyPost_ret (v := .tuple #[.agg #[.int .i64 0, .int .i64 0], .int .i64 6]) (by simp [results, Tryd.results36, go_sem, *]) rfl ⟨rfl, ?_⟩
  (repeat' (first | (with_reducible exact Below.refl _ _) | (with_reducible assumption) | (with_reducible refine Below.alloc ?_ ?_ _) | (with_reducible refine Below.drew ?_) | (with_reducible refine Below.setCell ?_ ?_ _) | (with_reducible refine Below.trans ?_ (Below.mono (by assumption) ?_)) | go_size))

theorem size_toArray (l : List UInt8) : (ByteArray.mk l.toArray).size = l.length := by rw [Lib.size_eq]

theorem prefix_any (s : ByteArray) (w : World) :
    Calls Tryd.prog 40 #[.string s, .string ⟨#[91]⟩] w fun e w' => e = .returned (.tuple #[.string ⟨(cutHead s.data.toList).toArray⟩, .bool (cutOpn s.data.toList)]) ∧ w = w' :=
  (Tryd.strings_CutPrefix s ⟨#[91]⟩ w).mono fun _ _ ⟨he, hw⟩ => ⟨he, hw.symm⟩
theorem suffix_any (s : ByteArray) (w : World) (hs : s.size < 4294967281) :
    Calls Tryd.prog 41 #[.string ⟨(cutHead s.data.toList).toArray⟩, .string ⟨#[41]⟩] w fun e w' => e = .returned (.tuple #[.string ⟨(cutTail s.data.toList).toArray⟩, .bool (cutCls s.data.toList)]) ∧ w = w' :=
  (Tryd.strings_CutSuffix ⟨(cutHead s.data.toList).toArray⟩ ⟨#[41]⟩ w (by
    rw [size_toArray]; have := Lib.trimPrefix_le s.data.toList [91]; rw [← Lib.size_eq] at this; unfold cutHead; omega)).mono fun _ _ ⟨he, hw⟩ => ⟨he, hw.symm⟩
theorem cut_any (s : ByteArray) (w : World) (henv : Env w) (hs : s.size < 4294967281) :
    Calls Tryd.prog 42 #[.string ⟨(cutTail s.data.toList).toArray⟩, .string ⟨#[44, 32]⟩] w fun e w' => e = .returned (.tuple #[.string ⟨(cutFirst s.data.toList).toArray⟩, .string ⟨(cutSecond s.data.toList).toArray⟩, .bool (cutDvd s.data.toList)]) ∧ Below w.heap.size w w' := by
  obtain ⟨m, hm⟩ := henv.cut
  exact (Tryd.strings_Cut ⟨(cutTail s.data.toList).toArray⟩ ⟨#[44, 32]⟩ m w (by
    rw [size_toArray]; have := Lib.trimPrefix_le s.data.toList [91]; have h2 := Lib.trimSuffix_le (cutHead s.data.toList) [41]; rw [← Lib.size_eq] at this; unfold cutTail; unfold cutHead at *; omega) hm).mono fun _ _ ⟨he, n, hw⟩ => ⟨he, by rw [hw]; exact below_drewN (Below.refl _ _) _⟩

set_option maxHeartbeats 400000 in
theorem bounds_any (s : ByteArray) (w : World) (henv : Env w) (hs : s.size < 4294967281) :
    Calls Tryd.prog 34 #[.string s] w fun e w' => e = .returned (.tuple #[.string ⟨(cutFirst s.data.toList).toArray⟩, .string ⟨(cutSecond s.data.toList).toArray⟩, .bool (cutWhole s.data.toList)]) ∧ Below w.heap.size w w' := by
  unfold cutWhole
  cases h1 : cutOpn s.data.toList <;> cases h2 : cutCls s.data.toList <;> cases h3 : cutDvd s.data.toList
  all_goals
    go_enter Tryd.func34, Tryd.ntmps34
    go_wp2_with (first | (go_at_call 40; refine (prefix_any _ _).mono ?_; rintro e w1 ⟨rfl, rfl⟩) | (go_at_call 41; refine (suffix_any _ _ hs).mono ?_; rintro e w1 ⟨rfl, rfl⟩) | (go_at_call 42; refine (cut_any _ _ henv hs).mono ?_; rintro e w1 ⟨rfl, hb⟩))
    go_ret3
    refine ⟨rfl, ?_⟩
    (repeat' (first | (with_reducible exact Below.refl _ _) | (with_reducible assumption) | (with_reducible refine Below.alloc ?_ ?_ _) | (with_reducible refine Below.drew ?_) | (with_reducible refine Below.setCell ?_ ?_ _) | (with_reducible refine Below.trans ?_ (Below.mono (by assumption) ?_)) | go_size))
end Go.Proofs.YtclopijbmjocmaaDoor
