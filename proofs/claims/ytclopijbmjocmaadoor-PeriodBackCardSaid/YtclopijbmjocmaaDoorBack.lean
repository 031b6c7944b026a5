/-
  The walk of the statement PeriodBack: a valid period is parsed from its text; others have no text. Conditions: the package-level variables read as the program lays them (Env).
-/
import Derived.Test.YtclopijbmjocmaaDoorAwake
import Derived.Test.YtclopijbmjocmaaDoorTextPure
import Derived.WalkKit
import Derived.WalkSpells
import Derived.WalkLawsBesides
import Derived.Deep.QuietTactic
import Derived.BigQuiet
import Derived.Handy
import Derived.Lib.Hide
namespace Go.Proofs.YtclopijbmjocmaaDoor
open Go.RowKit

theorem pt_yes (a b : Int) (w : World) (henv : Env w) (h : vld a b = true) :
    Calls Tryd.prog 30 #[.string ⟨(textP a b).toArray⟩] w fun e w' => e = .returned (.tuple #[.agg #[.int .i64 a, .int .i64 b], .int .i64 0]) ∧ Below w.heap.size w w' := by
  have hv : 0 ≤ a ∧ a < b ∧ b ≤ 1099511627776 := by simpa [vld, and_assoc] using h
  have la : (Lib.itoa a).length ≤ 21 := Lib.itoa_length_le a (by omega) (by omega)
  have lb : (Lib.itoa b).length ≤ 21 := Lib.itoa_length_le b (by omega) (by omega)
  have hl := text_len h la lb
  exact (parse_s ⟨(textP a b).toArray⟩ w henv (by rw [size_toArray]; omega)).mono fun _ _ ⟨he, hb⟩ => ⟨he.trans (congrArg (fun p => Ending.returned (perErr p)) (parse_text h)), hb⟩
theorem pt_no (w : World) (henv : Env w) :
    Calls Tryd.prog 30 #[.string ⟨#[]⟩] w fun e w' => e = .returned (.tuple #[.agg #[.int .i64 0, .int .i64 0], .int .i64 1]) ∧ Below w.heap.size w w' :=
  (parse_s ⟨#[]⟩ w henv (by decide)).mono fun _ _ ⟨he, hb⟩ => ⟨he.trans (congrArg (fun p => Ending.returned (perErr p)) (by decide +kernel : parseP [] = (0, 0, 1))), hb⟩

set_option maxRecDepth 100000 in
set_option maxHeartbeats 1600000 in
theorem back_yes (a b : Int) (w : World) (henv : Env w) (h : vld a b = true) :
    Calls Tryd.prog 7 #[.agg #[.int .i64 a, .int .i64 b]] w fun e w' => e = .returned (.bool true) ∧ Below w.heap.size w w' := by
  go_enter Tryd.func7, Tryd.ntmps7
  go_wp2_with fail
  refine (text_yes _ _ _ (henv.step (by (repeat' (first | (with_reducible exact Below.refl _ _) | (with_reducible assumption) | (with_reducible refine Below.alloc ?_ ?_ _) | (with_reducible refine Below.drew ?_) | (with_reducible refine Below.setCell ?_ ?_ _) | (with_reducible refine Below.trans ?_ (Below.mono (by assumption) ?_)) | go_size)))) h).mono ?_
  rintro e wt ⟨rfl, hb⟩
  obtain ⟨hc_wt, hf_wt⟩ := bcell hb
  have hz_wt := hb.size
  (try simp only [World.size_alloc] at hz_wt)
  have s0_wt : w.heap.size < wt.heap.size := (by omega)
  go_wp2_with fail
  refine (pt_yes _ _ _ (henv.step (by (repeat' (first | (with_reducible exact Below.refl _ _) | (with_reducible assumption) | (with_reducible refine Below.alloc ?_ ?_ _) | (with_reducible refine Below.drew ?_) | (with_reducible refine Below.setCell ?_ ?_ _) | (with_reducible refine Below.trans ?_ (Below.mono (by assumption) ?_)) | go_size)))) h).mono ?_
  rintro e wp ⟨rfl, hb⟩
  obtain ⟨hc_wp, hf_wp⟩ := bcell hb
  have hz_wp := hb.size
  (try simp only [World.size_alloc] at hz_wp)
  have s0_wp : w.heap.size < wp.heap.size := (by omega)
  go_wp2_with fail
  refine (rvalid_any _ _ _).mono ?_
  rintro e wv ⟨rfl, hb⟩
  obtain ⟨hc_wv, hf_wv⟩ := bcell hb
  have hz_wv := hb.size
  (try simp only [World.size_alloc] at hz_wv)
  have s0_wv : w.heap.size < wv.heap.size := (by omega)
  have s_wp_wv : wp.heap.size < wv.heap.size := (by omega)
  go_wp2_with fail
  refine (rtext_yes _ _ _ h).mono ?_
  rintro e wx ⟨rfl, hb⟩
  obtain ⟨hc_wx, hf_wx⟩ := bcell hb
  have hz_wx := hb.size
  (try simp only [World.size_alloc] at hz_wx)
  have s0_wx : w.heap.size < wx.heap.size := (by omega)
  have s_wp_wx : wp.heap.size < wx.heap.size := (by omega)
  go_wp2_with fail
  refine (awake_any _ (henv.step (by (repeat' (first | (with_reducible exact Below.refl _ _) | (with_reducible assumption) | (with_reducible refine Below.alloc ?_ ?_ _) | (with_reducible refine Below.drew ?_) | (with_reducible refine Below.setCell ?_ ?_ _) | (with_reducible refine Below.trans ?_ (Below.mono (by assumption) ?_)) | go_size))))).mono ?_
  rintro e wz ⟨rfl, hb⟩
  obtain ⟨hc_wz, hf_wz⟩ := bcell hb
  have hz_wz := hb.size
  (try simp only [World.size_alloc] at hz_wz)
  have s0_wz : w.heap.size < wz.heap.size := (by omega)
  have s_wp_wz : wp.heap.size < wz.heap.size := (by omega)
  go_wp2
  go_ret
  refine ⟨rfl, ?_⟩
  (repeat' (first | (with_reducible exact Below.refl _ _) | (with_reducible assumption) | (with_reducible refine Below.alloc ?_ ?_ _) | (with_reducible refine Below.drew ?_) | (with_reducible refine Below.setCell ?_ ?_ _) | (with_reducible refine Below.trans ?_ (Below.mono (by assumption) ?_)) | go_size))

set_option maxRecDepth 100000 in
set_option maxHeartbeats 1600000 in
theorem back_no (a b : Int) (w : World) (henv : Env w) (h : vld a b = false) :
    Calls Tryd.prog 7 #[.agg #[.int .i64 a, .int .i64 b]] w fun e w' => e = .returned (.bool true) ∧ Below w.heap.size w w' := by
  go_enter Tryd.func7, Tryd.ntmps7
  go_wp2_with fail
  refine (text_no _ _ _ h).mono ?_
  rintro e wt ⟨rfl, hb⟩
  obtain ⟨hc_wt, hf_wt⟩ := bcell hb
  have hz_wt := hb.size
  (try simp only [World.size_alloc] at hz_wt)
  have s0_wt : w.heap.size < wt.heap.size := (by omega)
  go_wp2_with fail
  refine (pt_no _ (henv.step (by (repeat' (first | (with_reducible exact Below.refl _ _) | (with_reducible assumption) | (with_reducible refine Below.alloc ?_ ?_ _) | (with_reducible refine Below.drew ?_) | (with_reducible refine Below.setCell ?_ ?_ _) | (with_reducible refine Below.trans ?_ (Below.mono (by assumption) ?_)) | go_size))))).mono ?_
  rintro e wp ⟨rfl, hb⟩
  obtain ⟨hc_wp, hf_wp⟩ := bcell hb
  have hz_wp := hb.size
  (try simp only [World.size_alloc] at hz_wp)
  have s0_wp : w.heap.size < wp.heap.size := (by omega)
  go_wp2_with fail
  refine (rvalid_any _ _ _).mono ?_
  rintro e wv ⟨rfl, hb⟩
  obtain ⟨hc_wv, hf_wv⟩ := bcell hb
  have hz_wv := hb.size
  (try simp only [World.size_alloc] at hz_wv)
  have s0_wv : w.heap.size < wv.heap.size := (by omega)
  have s_wp_wv : wp.heap.size < wv.heap.size := (by omega)
  go_wp2_with fail
  refine (awake_any _ (henv.step (by (repeat' (first | (with_reducible exact Below.refl _ _) | (with_reducible assumption) | (with_reducible refine Below.alloc ?_ ?_ _) | (with_reducible refine Below.drew ?_) | (with_reducible refine Below.setCell ?_ ?_ _) | (with_reducible refine Below.trans ?_ (Below.mono (by assumption) ?_)) | go_size))))).mono ?_
  rintro e wz ⟨rfl, hb⟩
  obtain ⟨hc_wz, hf_wz⟩ := bcell hb
  have hz_wz := hb.size
  (try simp only [World.size_alloc] at hz_wz)
  have s0_wz : w.heap.size < wz.heap.size := (by omega)
  have s_wp_wz : wp.heap.size < wz.heap.size := (by omega)
  go_wp2
  go_ret
  refine ⟨rfl, ?_⟩
  (repeat' (first | (with_reducible exact Below.refl _ _) | (with_reducible assumption) | (with_reducible refine Below.alloc ?_ ?_ _) | (with_reducible refine Below.drew ?_) | (with_reducible refine Below.setCell ?_ ?_ _) | (with_reducible refine Below.trans ?_ (Below.mono (by assumption) ?_)) | go_size))

theorem back_any (a b : Int) (w : World) (henv : Env w) :
    Calls Tryd.prog 7 #[.agg #[.int .i64 a, .int .i64 b]] w fun e w' => e = .returned (.bool true) ∧ Below w.heap.size w w' := by
  cases h : vld a b
  · exact back_no a b w henv h
  · exact back_yes a b w henv h
end Go.Proofs.YtclopijbmjocmaaDoor
