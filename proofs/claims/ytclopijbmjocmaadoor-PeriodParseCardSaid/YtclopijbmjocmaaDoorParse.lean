/-
  Contract of period.Parse: it returns what parseP says of the string's bytes. Conditions: the search's number is an int (Env); the string is shorter than 4294967281 bytes.
-/
import Derived.Test.YtclopijbmjocmaaDoorNum
import Derived.WalkKit
import Derived.WalkSpells
import Derived.WalkLawsBesides
import Derived.Deep.QuietTactic
import Derived.BigQuiet
import Derived.Handy
import Derived.Lib.Hide
namespace Go.Proofs.YtclopijbmjocmaaDoor
open Go.RowKit

theorem num_n (s : ByteArray) (w : World) (hs : s.size ≤ maxLen) :
    Calls Tryd.prog 35 #[.string s] w fun e w' => e = .returned (.tuple #[.int .i64 (numN s.data.toList), .bool (numOk s.data.toList)]) ∧ w = w' :=
  (num_any s w hs).mono fun _ _ ⟨he, hw⟩ => ⟨by rw [he, numRes_eq], hw.symm⟩
theorem num_l (l : List UInt8) (w : World) (hs : l.length ≤ maxLen) :
    Calls Tryd.prog 35 #[.string ⟨l.toArray⟩] w fun e w' => e = .returned (.tuple #[.int .i64 (numN l), .bool (numOk l)]) ∧ w = w' :=
  num_n ⟨l.toArray⟩ w (by rw [size_toArray]; exact hs)

theorem checked_any (a b : Int) (w : World) :
    Calls Tryd.prog 36 #[.agg #[.int .i64 a, .int .i64 b]] w fun e w' => e = .returned (.tuple #[.agg #[.int .i64 (chk a b).1, .int .i64 (chk a b).2.1], .int .i64 (chk a b).2.2]) ∧ Below w.heap.size w w' := by
  cases h : vld a b
  · have e : chk a b = (0, 0, 6) := by simp [chk, h]
    rw [e]; exact checked_no a b w h
  · have e : chk a b = (a, b, 0) := by simp [chk, h]
    rw [e]; exact checked_yes a b w h

set_option maxHeartbeats 800000 in
theorem parse_any (s : ByteArray) (w : World) (henv : Env w) (hs : s.size < 4294967281) (hlf : (cutFirst s.data.toList).length ≤ maxLen) (hlg : (cutSecond s.data.toList).length ≤ maxLen) :
    Calls Tryd.prog 30 #[.string s] w fun e w' => e = .returned (perErr (parseP s.data.toList)) ∧ Below w.heap.size w w' := by
  cases h1 : cutWhole s.data.toList
  · have HP : Hid (parseP s.data.toList = (0, 0, 1)) := Lib.hid (by unfold parseP; rw [if_pos h1])
    go_enter Tryd.func30, Tryd.ntmps30
    go_wp2_with (first | (go_at_call 34; refine (bounds_any _ _ (henv.step (by (repeat' (first | (with_reducible exact Below.refl _ _) | (with_reducible assumption) | (with_reducible refine Below.alloc ?_ ?_ _) | (with_reducible refine Below.drew ?_) | (with_reducible refine Below.setCell ?_ ?_ _) | (with_reducible refine Below.trans ?_ (Below.mono (by assumption) ?_)) | go_size)))) hs).mono ?_; rintro e w1 ⟨rfl, hb⟩; obtain ⟨hc, hf⟩ := bcell hb; have hz := hb.size; (try simp only [World.size_alloc] at hz); have hz0 : w.heap.size < w1.heap.size := (by omega)))
    refine bodyPost_ret (v := perErr (0, 0, 1)) (by simp [results, Tryd.results30, go_sem, perErr, *]) rfl ⟨ret_pe HP.out.symm, ?_⟩
    (repeat' (first | (with_reducible exact Below.refl _ _) | (with_reducible assumption) | (with_reducible refine Below.alloc ?_ ?_ _) | (with_reducible refine Below.drew ?_) | (with_reducible refine Below.setCell ?_ ?_ _) | (with_reducible refine Below.trans ?_ (Below.mono (by assumption) ?_)) | go_size))
  · cases h2 : numOk (cutFirst s.data.toList)
    · have HP : Hid (parseP s.data.toList = (0, 0, 1)) := Lib.hid (by unfold parseP; rw [if_neg (by rw [h1]; decide), if_pos h2])
      go_enter Tryd.func30, Tryd.ntmps30
      go_wp2_with (first | (go_at_call 34; refine (bounds_any _ _ (henv.step (by (repeat' (first | (with_reducible exact Below.refl _ _) | (with_reducible assumption) | (with_reducible refine Below.alloc ?_ ?_ _) | (with_reducible refine Below.drew ?_) | (with_reducible refine Below.setCell ?_ ?_ _) | (with_reducible refine Below.trans ?_ (Below.mono (by assumption) ?_)) | go_size)))) hs).mono ?_; rintro e w1 ⟨rfl, hb⟩; obtain ⟨hc, hf⟩ := bcell hb; have hz := hb.size; (try simp only [World.size_alloc] at hz); have hz0 : w.heap.size < w1.heap.size := (by omega)) | (go_at_call 35; refine (num_l _ _ (by assumption)).mono ?_; rintro e w2 ⟨rfl, rfl⟩))
      refine bodyPost_ret (v := perErr (0, 0, 1)) (by simp [results, Tryd.results30, go_sem, perErr, *]) rfl ⟨ret_pe HP.out.symm, ?_⟩
      (repeat' (first | (with_reducible exact Below.refl _ _) | (with_reducible assumption) | (with_reducible refine Below.alloc ?_ ?_ _) | (with_reducible refine Below.drew ?_) | (with_reducible refine Below.setCell ?_ ?_ _) | (with_reducible refine Below.trans ?_ (Below.mono (by assumption) ?_)) | go_size))
    · cases h3 : (cutSecond s.data.toList == [102, 111, 114, 101, 118, 101, 114])
      · have h3' : ¬ cutSecond s.data.toList = sForever := by intro e; rw [e] at h3; exact absurd h3 (by decide)
        cases h4 : numOk (cutSecond s.data.toList)
        · have HP : Hid (parseP s.data.toList = (0, 0, 1)) := Lib.hid (by unfold parseP; rw [if_neg (by rw [h1]; decide), if_neg (by rw [h2]; decide), if_neg h3', if_pos h4])
          go_enter Tryd.func30, Tryd.ntmps30
          go_wp2_with (first | (go_at_call 34; refine (bounds_any _ _ (henv.step (by (repeat' (first | (with_reducible exact Below.refl _ _) | (with_reducible assumption) | (with_reducible refine Below.alloc ?_ ?_ _) | (with_reducible refine Below.drew ?_) | (with_reducible refine Below.setCell ?_ ?_ _) | (with_reducible refine Below.trans ?_ (Below.mono (by assumption) ?_)) | go_size)))) hs).mono ?_; rintro e w1 ⟨rfl, hb⟩; obtain ⟨hc, hf⟩ := bcell hb; have hz := hb.size; (try simp only [World.size_alloc] at hz); have hz0 : w.heap.size < w1.heap.size := (by omega)) | (go_at_call 35; refine (num_l _ _ (by assumption)).mono ?_; rintro e w2 ⟨rfl, rfl⟩) | (go_at_call 36; refine (checked_any _ _ _).mono ?_; rintro e w1 ⟨rfl, hb⟩; obtain ⟨hc, hf⟩ := bcell hb; have hz := hb.size; (try simp only [World.size_alloc] at hz); have hz0 : w.heap.size < w1.heap.size := (by omega)))
          refine bodyPost_ret (v := perErr (0, 0, 1)) (by simp [results, Tryd.results30, go_sem, perErr, *]) rfl ⟨ret_pe HP.out.symm, ?_⟩
          (repeat' (first | (with_reducible exact Below.refl _ _) | (with_reducible assumption) | (with_reducible refine Below.alloc ?_ ?_ _) | (with_reducible refine Below.drew ?_) | (with_reducible refine Below.setCell ?_ ?_ _) | (with_reducible refine Below.trans ?_ (Below.mono (by assumption) ?_)) | go_size))
        · cases h5 : (numN (cutSecond s.data.toList) == 1099511627776)
          · have HP : Hid (parseP s.data.toList = chk (numN (cutFirst s.data.toList)) (numN (cutSecond s.data.toList))) := Lib.hid (by unfold parseP; rw [if_neg (by rw [h1]; decide), if_neg (by rw [h2]; decide), if_neg h3', if_neg (by rw [h4]; decide), if_neg (by simpa using h5)])
            go_enter Tryd.func30, Tryd.ntmps30
            go_wp2_with (first | (go_at_call 34; refine (bounds_any _ _ (henv.step (by (repeat' (first | (with_reducible exact Below.refl _ _) | (with_reducible assumption) | (with_reducible refine Below.alloc ?_ ?_ _) | (with_reducible refine Below.drew ?_) | (with_reducible refine Below.setCell ?_ ?_ _) | (with_reducible refine Below.trans ?_ (Below.mono (by assumption) ?_)) | go_size)))) hs).mono ?_; rintro e w1 ⟨rfl, hb⟩; obtain ⟨hc, hf⟩ := bcell hb; have hz := hb.size; (try simp only [World.size_alloc] at hz); have hz0 : w.heap.size < w1.heap.size := (by omega)) | (go_at_call 35; refine (num_l _ _ (by assumption)).mono ?_; rintro e w2 ⟨rfl, rfl⟩) | (go_at_call 36; refine (checked_any _ _ _).mono ?_; rintro e w1 ⟨rfl, hb⟩; obtain ⟨hc, hf⟩ := bcell hb; have hz := hb.size; (try simp only [World.size_alloc] at hz); have hz0 : w.heap.size < w1.heap.size := (by omega)))
            refine bodyPost_ret (v := perErr (chk (numN (cutFirst s.data.toList)) (numN (cutSecond s.data.toList)))) (by simp [results, Tryd.results30, go_sem, perErr, *]) rfl ⟨ret_pe HP.out.symm, ?_⟩
            (repeat' (first | (with_reducible exact Below.refl _ _) | (with_reducible assumption) | (with_reducible refine Below.alloc ?_ ?_ _) | (with_reducible refine Below.drew ?_) | (with_reducible refine Below.setCell ?_ ?_ _) | (with_reducible refine Below.trans ?_ (Below.mono (by assumption) ?_)) | go_size))
          · have HP : Hid (parseP s.data.toList = (0, 0, 6)) := Lib.hid (by unfold parseP; rw [if_neg (by rw [h1]; decide), if_neg (by rw [h2]; decide), if_neg h3', if_neg (by rw [h4]; decide), if_pos (by simpa using h5)])
            go_enter Tryd.func30, Tryd.ntmps30
            go_wp2_with (first | (go_at_call 34; refine (bounds_any _ _ (henv.step (by (repeat' (first | (with_reducible exact Below.refl _ _) | (with_reducible assumption) | (with_reducible refine Below.alloc ?_ ?_ _) | (with_reducible refine Below.drew ?_) | (with_reducible refine Below.setCell ?_ ?_ _) | (with_reducible refine Below.trans ?_ (Below.mono (by assumption) ?_)) | go_size)))) hs).mono ?_; rintro e w1 ⟨rfl, hb⟩; obtain ⟨hc, hf⟩ := bcell hb; have hz := hb.size; (try simp only [World.size_alloc] at hz); have hz0 : w.heap.size < w1.heap.size := (by omega)) | (go_at_call 35; refine (num_l _ _ (by assumption)).mono ?_; rintro e w2 ⟨rfl, rfl⟩) | (go_at_call 36; refine (checked_any _ _ _).mono ?_; rintro e w1 ⟨rfl, hb⟩; obtain ⟨hc, hf⟩ := bcell hb; have hz := hb.size; (try simp only [World.size_alloc] at hz); have hz0 : w.heap.size < w1.heap.size := (by omega)))
            refine bodyPost_ret (v := perErr (0, 0, 6)) (by simp [results, Tryd.results30, go_sem, perErr, *]) rfl ⟨ret_pe HP.out.symm, ?_⟩
            (repeat' (first | (with_reducible exact Below.refl _ _) | (with_reducible assumption) | (with_reducible refine Below.alloc ?_ ?_ _) | (with_reducible refine Below.drew ?_) | (with_reducible refine Below.setCell ?_ ?_ _) | (with_reducible refine Below.trans ?_ (Below.mono (by assumption) ?_)) | go_size))
      · have h3' : cutSecond s.data.toList = sForever := (by simpa using h3 : cutSecond s.data.toList = [102, 111, 114, 101, 118, 101, 114])
        have HP : Hid (parseP s.data.toList = chk (numN (cutFirst s.data.toList)) 1099511627776) := Lib.hid (by unfold parseP; rw [if_neg (by rw [h1]; decide), if_neg (by rw [h2]; decide), if_pos h3'])
        clear h3'
        go_enter Tryd.func30, Tryd.ntmps30
        go_wp2_with (first | (go_at_call 34; refine (bounds_any _ _ (henv.step (by (repeat' (first | (with_reducible exact Below.refl _ _) | (with_reducible assumption) | (with_reducible refine Below.alloc ?_ ?_ _) | (with_reducible refine Below.drew ?_) | (with_reducible refine Below.setCell ?_ ?_ _) | (with_reducible refine Below.trans ?_ (Below.mono (by assumption) ?_)) | go_size)))) hs).mono ?_; rintro e w1 ⟨rfl, hb⟩; obtain ⟨hc, hf⟩ := bcell hb; have hz := hb.size; (try simp only [World.size_alloc] at hz); have hz0 : w.heap.size < w1.heap.size := (by omega)) | (go_at_call 35; refine (num_l _ _ (by assumption)).mono ?_; rintro e w2 ⟨rfl, rfl⟩) | (go_at_call 36; refine (checked_any _ _ _).mono ?_; rintro e w1 ⟨rfl, hb⟩; obtain ⟨hc, hf⟩ := bcell hb; have hz := hb.size; (try simp only [World.size_alloc] at hz); have hz0 : w.heap.size < w1.heap.size := (by omega)))
        refine bodyPost_ret (v := perErr (chk (numN (cutFirst s.data.toList)) 1099511627776)) (by simp [results, Tryd.results30, go_sem, perErr, *]) rfl ⟨ret_pe HP.out.symm, ?_⟩
        (repeat' (first | (with_reducible exact Below.refl _ _) | (with_reducible assumption) | (with_reducible refine Below.alloc ?_ ?_ _) | (with_reducible refine Below.drew ?_) | (with_reducible refine Below.setCell ?_ ?_ _) | (with_reducible refine Below.trans ?_ (Below.mono (by assumption) ?_)) | go_size))

theorem cutTail_le (l : List UInt8) : (cutTail l).length ≤ l.length := by
  have h1 := Lib.trimPrefix_le l [91]
  have h2 := Lib.trimSuffix_le (cutHead l) [41]
  unfold cutTail; unfold cutHead at *; omega
theorem cutFirst_le (l : List UInt8) : (cutFirst l).length ≤ l.length := by
  have h := cutTail_le l
  unfold cutFirst Lib.cut
  split
  · simp only [List.length_take]; omega
  · exact h
theorem cutSecond_le (l : List UInt8) : (cutSecond l).length ≤ l.length := by
  have h := cutTail_le l
  unfold cutSecond Lib.cut
  split
  · simp only [List.length_drop]; omega
  · simp

/-- period.Parse, at every string that is short enough. -/
theorem parse_s (s : ByteArray) (w : World) (henv : Env w) (hs : s.size < 4294967281) :
    Calls Tryd.prog 30 #[.string s] w fun e w' => e = .returned (perErr (parseP s.data.toList)) ∧ Below w.heap.size w w' :=
  parse_any s w henv hs (by have := cutFirst_le s.data.toList; rw [← Lib.size_eq] at this; unfold maxLen; omega) (by have := cutSecond_le s.data.toList; rw [← Lib.size_eq] at this; unfold maxLen; omega)
end Go.Proofs.YtclopijbmjocmaaDoor
