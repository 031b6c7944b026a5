/-
  The walk of the statement PeriodParse: every string of at most 60 bytes is parsed as defined, and what is parsed has that text. Conditions: the package-level variables read as the program lays them (Env).
-/
import Derived.Test.YtclopijbmjocmaaDoorAwake
import Derived.Test.YtclopijbmjocmaaDoorRParse
import Derived.WalkKit
import Derived.WalkSpells
import Derived.WalkLawsBesides
import Derived.Deep.QuietTactic
import Derived.BigQuiet
import Derived.Handy
import Derived.Lib.Hide
namespace Go.Proofs.YtclopijbmjocmaaDoor
open Go.RowKit

theorem lp_parse (s : ByteArray) (x y er : Int) (w : World) (henv : Env w) (hs : s.size < 4294967281) (h : parseP s.data.toList = (x, y, er)) :
    Calls Tryd.prog 30 #[.string s] w fun e w' => e = .returned (.tuple #[.agg #[.int .i64 x, .int .i64 y], .int .i64 er]) ∧ Below w.heap.size w w' :=
  (parse_s s w henv hs).mono fun _ _ ⟨he, hb⟩ => ⟨he.trans (by rw [h]; rfl), hb⟩
theorem lp_rparse (s : ByteArray) (x y er : Int) (w : World) (hs : s.size < 4294967281) (h : parseP s.data.toList = (x, y, er)) :
    Calls Tryd.prog 32 #[.string s] w fun e w' => e = .returned (.tuple #[.agg #[.int .i64 x, .int .i64 y], .int .i64 er]) ∧ Below w.heap.size w w' :=
  (rparse_s s w hs).mono fun _ _ ⟨he, hb⟩ => ⟨he.trans (by rw [← parse_same, h]; rfl), hb⟩
theorem lp_text (s : ByteArray) (x y : Int) (w : World) (henv : Env w) (h : parseP s.data.toList = (x, y, 0)) :
    Calls Tryd.prog 29 #[.agg #[.int .i64 x, .int .i64 y]] w fun e w' => e = .returned (.string s) ∧ Below w.heap.size w w' :=
  (text_yes x y w henv (text_of_parse h).2).mono fun _ _ ⟨he, hb⟩ => ⟨he.trans (by rw [(text_of_parse h).1, Lib.mk_data]), hb⟩

set_option maxRecDepth 100000 in
set_option maxHeartbeats 1600000 in
theorem lp_long (s : ByteArray) (w : World) (henv : Env w) (h : 60 < s.size) :
    Calls Tryd.prog 8 #[.string s] w fun e w' => e = .returned (.bool true) ∧ Below w.heap.size w w' := by
  go_enter Tryd.func8, Tryd.ntmps8
  go_wp2_with fail
  refine (awake_any _ henv).mono ?_
  rintro e w1 ⟨rfl, hb⟩
  go_wp2
  go_ret
  exact ⟨rfl, hb⟩

set_option maxRecDepth 100000 in
set_option maxHeartbeats 1600000 in
theorem lp_good (s : ByteArray) (x y : Int) (w : World) (henv : Env w) (h60 : s.size ≤ 60) (HP : Hid (parseP s.data.toList = (x, y, 0))) :
    Calls Tryd.prog 8 #[.string s] w fun e w' => e = .returned (.bool true) ∧ Below w.heap.size w w' := by
  have hs : s.size < 4294967281 := by omega
  go_enter Tryd.func8, Tryd.ntmps8
  go_wp2_with fail
  refine (lp_parse s x y 0 _ (henv.step (by (repeat' (first | (with_reducible exact Below.refl _ _) | (with_reducible assumption) | (with_reducible refine Below.alloc ?_ ?_ _) | (with_reducible refine Below.drew ?_) | (with_reducible refine Below.setCell ?_ ?_ _) | (with_reducible refine Below.trans ?_ (Below.mono (by assumption) ?_)) | go_size)))) hs HP.out).mono ?_
  rintro e wp ⟨rfl, hb⟩
  obtain ⟨hc_wp, hf_wp⟩ := bcell hb
  have hz_wp := hb.size
  (try simp only [World.size_alloc] at hz_wp)
  go_wp2_with fail
  refine (lp_rparse s x y 0 _ hs HP.out).mono ?_
  rintro e wr ⟨rfl, hb⟩
  obtain ⟨hc_wr, hf_wr⟩ := bcell hb
  have hz_wr := hb.size
  (try simp only [World.size_alloc] at hz_wr)
  have s_wp_wr : wp.heap.size < wr.heap.size := (by omega)
  go_wp2_with fail
  refine (lp_text s x y _ (henv.step (by (repeat' (first | (with_reducible exact Below.refl _ _) | (with_reducible assumption) | (with_reducible refine Below.alloc ?_ ?_ _) | (with_reducible refine Below.drew ?_) | (with_reducible refine Below.setCell ?_ ?_ _) | (with_reducible refine Below.trans ?_ (Below.mono (by assumption) ?_)) | go_size)))) HP.out).mono ?_
  rintro e wt ⟨rfl, hb⟩
  obtain ⟨hc_wt, hf_wt⟩ := bcell hb
  have hz_wt := hb.size
  (try simp only [World.size_alloc] at hz_wt)
  have s_wp_wt : wp.heap.size < wt.heap.size := (by omega)
  have s_wr_wt : wr.heap.size < wt.heap.size := (by omega)
  go_wp2_with fail
  refine (awake_any _ (henv.step (by (repeat' (first | (with_reducible exact Below.refl _ _) | (with_reducible assumption) | (with_reducible refine Below.alloc ?_ ?_ _) | (with_reducible refine Below.drew ?_) | (with_reducible refine Below.setCell ?_ ?_ _) | (with_reducible refine Below.trans ?_ (Below.mono (by assumption) ?_)) | go_size))))).mono ?_
  rintro e wz ⟨rfl, hb⟩
  obtain ⟨hc_wz, hf_wz⟩ := bcell hb
  have hz_wz := hb.size
  (try simp only [World.size_alloc] at hz_wz)
  have s_wp_wz : wp.heap.size < wz.heap.size := (by omega)
  have s_wr_wz : wr.heap.size < wz.heap.size := (by omega)
  go_wp2
  go_ret
  refine ⟨rfl, ?_⟩
  (repeat' (first | (with_reducible exact Below.refl _ _) | (with_reducible assumption) | (with_reducible refine Below.alloc ?_ ?_ _) | (with_reducible refine Below.drew ?_) | (with_reducible refine Below.setCell ?_ ?_ _) | (with_reducible refine Below.trans ?_ (Below.mono (by assumption) ?_)) | go_size))

set_option maxRecDepth 100000 in
set_option maxHeartbeats 1600000 in
theorem lp_bad (s : ByteArray) (x y er : Int) (_he : (er == 0) = false) (he2 : (er != 0) = true) (w : World) (henv : Env w) (h60 : s.size ≤ 60) (HP : Hid (parseP s.data.toList = (x, y, er))) :
    Calls Tryd.prog 8 #[.string s] w fun e w' => e = .returned (.bool true) ∧ Below w.heap.size w w' := by
  have hs : s.size < 4294967281 := by omega
  go_enter Tryd.func8, Tryd.ntmps8
  go_wp2_with fail
  refine (lp_parse s x y er _ (henv.step (by (repeat' (first | (with_reducible exact Below.refl _ _) | (with_reducible assumption) | (with_reducible refine Below.alloc ?_ ?_ _) | (with_reducible refine Below.drew ?_) | (with_reducible refine Below.setCell ?_ ?_ _) | (with_reducible refine Below.trans ?_ (Below.mono (by assumption) ?_)) | go_size)))) hs HP.out).mono ?_
  rintro e wp ⟨rfl, hb⟩
  obtain ⟨hc_wp, hf_wp⟩ := bcell hb
  have hz_wp := hb.size
  (try simp only [World.size_alloc] at hz_wp)
  go_wp2_with fail
  refine (lp_rparse s x y er _ hs HP.out).mono ?_
  rintro e wr ⟨rfl, hb⟩
  obtain ⟨hc_wr, hf_wr⟩ := bcell hb
  have hz_wr := hb.size
  (try simp only [World.size_alloc] at hz_wr)
  have s_wp_wr : wp.heap.size < wr.heap.size := (by omega)
  go_wp2_with fail
  refine (awake_any _ (henv.step (by (repeat' (first | (with_reducible exact Below.refl _ _) | (with_reducible assumption) | (with_reducible refine Below.alloc ?_ ?_ _) | (with_reducible refine Below.drew ?_) | (with_reducible refine Below.setCell ?_ ?_ _) | (with_reducible refine Below.trans ?_ (Below.mono (by assumption) ?_)) | go_size))))).mono ?_
  rintro e wz ⟨rfl, hb⟩
  obtain ⟨hc_wz, hf_wz⟩ := bcell hb
  have hz_wz := hb.size
  (try simp only [World.size_alloc] at hz_wz)
  have s_wp_wz : wp.heap.size < wz.heap.size := (by omega)
  have s_wr_wz : wr.heap.size < wz.heap.size := (by omega)
  go_wp2
  go_ret
  refine ⟨rfl, ?_⟩
  (repeat' (first | (with_reducible exact Below.refl _ _) | (with_reducible assumption) | (with_reducible refine Below.alloc ?_ ?_ _) | (with_reducible refine Below.drew ?_) | (with_reducible refine Below.setCell ?_ ?_ _) | (with_reducible refine Below.trans ?_ (Below.mono (by assumption) ?_)) | go_size))

theorem lparse_any (s : ByteArray) (w : World) (henv : Env w) (_hs : s.size ≤ maxLen) :
    Calls Tryd.prog 8 #[.string s] w fun e w' => e = .returned (.bool true) ∧ Below w.heap.size w w' := by
  by_cases h : 60 < s.size
  · exact lp_long s w henv h
  · obtain ⟨⟨x, y, er⟩, hp⟩ : ∃ p, p = parseP s.data.toList := ⟨_, rfl⟩
    by_cases he : er = 0
    · subst he
      exact lp_good s x y w henv (by omega) (Lib.hid hp.symm)
    · exact lp_bad s x y er (beq_eq_false_iff_ne.2 he) (bne_iff_ne.2 he) w henv (by omega) (Lib.hid hp.symm)
end Go.Proofs.YtclopijbmjocmaaDoor
