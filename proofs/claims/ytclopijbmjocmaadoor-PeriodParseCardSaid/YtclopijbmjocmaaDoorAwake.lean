/-
  Contract of the statements' own examples (awake) for periods: it returns true and writes nothing old. Conditions: the package-level variables read as the program lays them (Env).
-/
import Derived.Test.YtclopijbmjocmaaDoorSub2
import Derived.Test.YtclopijbmjocmaaDoorParse
import Derived.Test.YtclopijbmjocmaaDoorText
import Derived.WalkKit
import Derived.WalkSpells
import Derived.WalkLawsBesides
import Derived.Deep.QuietTactic
import Derived.BigQuiet
import Derived.Handy
import Derived.Lib.Hide
namespace Go.Proofs.YtclopijbmjocmaaDoor
open Go.RowKit

theorem w_merge (w : World) : Calls Tryd.prog 22 #[.agg #[.int .i64 3, .int .i64 7], .agg #[.int .i64 7, .int .i64 9]] w fun e w' => e = .returned (.tuple #[.agg #[.int .i64 3, .int .i64 9], .bool true]) ∧ Below w.heap.size w w' :=
  merge_yes 3 7 7 9 w (by decide)
theorem w_adj (w : World) : Calls Tryd.prog 17 #[.agg #[.int .i64 3, .int .i64 7], .agg #[.int .i64 7, .int .i64 9]] w fun e w' => e = .returned (.bool true) ∧ Below w.heap.size w w' :=
  adjacent_any 3 7 7 9 w
theorem w_ovl (w : World) : Calls Tryd.prog 15 #[.agg #[.int .i64 3, .int .i64 7], .agg #[.int .i64 7, .int .i64 9]] w fun e w' => e = .returned (.bool false) ∧ Below w.heap.size w w' :=
  overlaps_any 3 7 7 9 w
theorem w_parse1 (w : World) (h : Env w) : Calls Tryd.prog 30 #[.string ⟨#[91, 48, 55, 44, 32, 57, 41]⟩] w fun e w' => e = .returned (.tuple #[.agg #[.int .i64 0, .int .i64 0], .int .i64 1]) ∧ Below w.heap.size w w' :=
  (parse_s ⟨#[91, 48, 55, 44, 32, 57, 41]⟩ w h (by decide)).mono fun _ _ ⟨he, hb⟩ => ⟨he.trans (congrArg (fun p => Ending.returned (perErr p)) (by decide +kernel : parseP [91, 48, 55, 44, 32, 57, 41] = (0, 0, 1))), hb⟩
theorem w_parse2 (w : World) (h : Env w) : Calls Tryd.prog 30 #[.string ⟨#[91, 57, 44, 32, 55, 41]⟩] w fun e w' => e = .returned (.tuple #[.agg #[.int .i64 0, .int .i64 0], .int .i64 6]) ∧ Below w.heap.size w w' :=
  (parse_s ⟨#[91, 57, 44, 32, 55, 41]⟩ w h (by decide)).mono fun _ _ ⟨he, hb⟩ => ⟨he.trans (congrArg (fun p => Ending.returned (perErr p)) (by decide +kernel : parseP [91, 57, 44, 32, 55, 41] = (0, 0, 6))), hb⟩
theorem w_text_eq : textP 3 1099511627776 = [91, 51, 44, 32, 102, 111, 114, 101, 118, 101, 114, 41] := by
  have e : Lib.itoa 3 = [51] := by rw [show (3 : Int) = ((3 : Nat) : Int) from rfl, itoa_nat, dec_last 3 (by decide)]; rfl
  unfold textP; rw [if_pos (by decide), if_pos rfl, e]; rfl
theorem w_text (w : World) (h : Env w) : Calls Tryd.prog 29 #[.agg #[.int .i64 3, .int .i64 1099511627776]] w fun e w' => e = .returned (.string ⟨#[91, 51, 44, 32, 102, 111, 114, 101, 118, 101, 114, 41]⟩) ∧ Below w.heap.size w w' :=
  (text_yes 3 1099511627776 w h (by decide)).mono fun _ _ ⟨he, hb⟩ => ⟨he.trans (by rw [w_text_eq]), hb⟩
theorem w_sub (w : World) : Calls Tryd.prog 25 #[.agg #[.int .i64 3, .int .i64 9], .agg #[.int .i64 5, .int .i64 6]] w fun e w' => ∃ g c, e = .returned (.slice (some ⟨g, 0, none⟩) 2 c) ∧ g < w'.heap.size ∧ w'.cell? ⟨g, 0, none⟩ = some (.int .i64 3) ∧ w'.cell? ⟨g, 1, none⟩ = some (.int .i64 5) ∧ Below w.heap.size w w' :=
  (sub_any 3 9 5 6 w).mono fun e w' ⟨v, he, hp, hb⟩ => by
    rw [show subP 3 9 5 6 = [(3, 5), (6, 9)] from by decide] at hp
    rcases hp with ⟨h0, _⟩ | ⟨g, c, rfl, hg, _, hc⟩
    · cases h0
    · obtain ⟨h1, h2⟩ := hc 0 (3, 5) rfl
      exact ⟨g, c, he, hg, h1, h2, hb⟩

set_option maxRecDepth 100000 in
set_option maxHeartbeats 1000000 in
theorem awake_any (w : World) (henv : Env w) :
    Calls Tryd.prog 19 #[] w fun e w' => e = .returned (.bool true) ∧ Below w.heap.size w w' := by
  go_enter Tryd.func19, Tryd.ntmps19
  go_wp2_with fail
  refine (w_merge _).mono ?_
  rintro e wm ⟨rfl, hb⟩
  obtain ⟨hc_wm, hf_wm⟩ := bcell hb
  have hz_wm := hb.size
  (try simp only [World.size_alloc] at hz_wm)
  have s0_wm : w.heap.size < wm.heap.size := (by omega)
  have s1_wm : w.heap.size + 1 < wm.heap.size := (by omega)
  go_wp2_with fail
  refine (w_parse1 _ (henv.step (by (repeat' (first | (with_reducible exact Below.refl _ _) | (with_reducible assumption) | (with_reducible refine Below.alloc ?_ ?_ _) | (with_reducible refine Below.drew ?_) | (with_reducible refine Below.setCell ?_ ?_ _) | (with_reducible refine Below.trans ?_ (Below.mono (by assumption) ?_)) | go_size))))).mono ?_
  rintro e wp ⟨rfl, hb⟩
  obtain ⟨hc_wp, hf_wp⟩ := bcell hb
  have hz_wp := hb.size
  (try simp only [World.size_alloc] at hz_wp)
  have s0_wp : w.heap.size < wp.heap.size := (by omega)
  have s1_wp : w.heap.size + 1 < wp.heap.size := (by omega)
  have s_wm_wp : wm.heap.size < wp.heap.size := (by omega)
  go_wp2_with fail
  refine (w_parse2 _ (henv.step (by (repeat' (first | (with_reducible exact Below.refl _ _) | (with_reducible assumption) | (with_reducible refine Below.alloc ?_ ?_ _) | (with_reducible refine Below.drew ?_) | (with_reducible refine Below.setCell ?_ ?_ _) | (with_reducible refine Below.trans ?_ (Below.mono (by assumption) ?_)) | go_size))))).mono ?_
  rintro e wq ⟨rfl, hb⟩
  obtain ⟨hc_wq, hf_wq⟩ := bcell hb
  have hz_wq := hb.size
  (try simp only [World.size_alloc] at hz_wq)
  have s0_wq : w.heap.size < wq.heap.size := (by omega)
  have s1_wq : w.heap.size + 1 < wq.heap.size := (by omega)
  have s_wm_wq : wm.heap.size < wq.heap.size := (by omega)
  have s_wp_wq : wp.heap.size < wq.heap.size := (by omega)
  go_wp2_with fail
  refine (w_sub _).mono ?_
  rintro e ws ⟨g, c, rfl, hg, hc1, hc2, hb⟩
  obtain ⟨hc_ws, hf_ws⟩ := bcell hb
  have hz_ws := hb.size
  (try simp only [World.size_alloc] at hz_ws)
  have s0_ws : w.heap.size < ws.heap.size := (by omega)
  have s1_ws : w.heap.size + 1 < ws.heap.size := (by omega)
  have s_wm_ws : wm.heap.size < ws.heap.size := (by omega)
  have s_wp_ws : wp.heap.size < ws.heap.size := (by omega)
  have s_wq_ws : wq.heap.size < ws.heap.size := (by omega)
  go_wp2_with fail
  refine (w_adj _).mono ?_
  rintro e wa ⟨rfl, hb⟩
  obtain ⟨hc_wa, hf_wa⟩ := bcell hb
  have hz_wa := hb.size
  (try simp only [World.size_alloc] at hz_wa)
  have s0_wa : w.heap.size < wa.heap.size := (by omega)
  have s1_wa : w.heap.size + 1 < wa.heap.size := (by omega)
  have s_wm_wa : wm.heap.size < wa.heap.size := (by omega)
  have s_wp_wa : wp.heap.size < wa.heap.size := (by omega)
  have s_wq_wa : wq.heap.size < wa.heap.size := (by omega)
  have sg_wa : g < wa.heap.size := (by omega)
  go_wp2_with fail
  refine (w_ovl _).mono ?_
  rintro e wo ⟨rfl, hb⟩
  obtain ⟨hc_wo, hf_wo⟩ := bcell hb
  have hz_wo := hb.size
  (try simp only [World.size_alloc] at hz_wo)
  have s0_wo : w.heap.size < wo.heap.size := (by omega)
  have s1_wo : w.heap.size + 1 < wo.heap.size := (by omega)
  have s_wm_wo : wm.heap.size < wo.heap.size := (by omega)
  have s_wp_wo : wp.heap.size < wo.heap.size := (by omega)
  have s_wq_wo : wq.heap.size < wo.heap.size := (by omega)
  have sg_wo : g < wo.heap.size := (by omega)
  go_wp2_with fail
  refine (w_text _ (henv.step (by (repeat' (first | (with_reducible exact Below.refl _ _) | (with_reducible assumption) | (with_reducible refine Below.alloc ?_ ?_ _) | (with_reducible refine Below.drew ?_) | (with_reducible refine Below.setCell ?_ ?_ _) | (with_reducible refine Below.trans ?_ (Below.mono (by assumption) ?_)) | go_size))))).mono ?_
  rintro e wt ⟨rfl, hb⟩
  obtain ⟨hc_wt, hf_wt⟩ := bcell hb
  have hz_wt := hb.size
  (try simp only [World.size_alloc] at hz_wt)
  have s0_wt : w.heap.size < wt.heap.size := (by omega)
  have s1_wt : w.heap.size + 1 < wt.heap.size := (by omega)
  have s_wm_wt : wm.heap.size < wt.heap.size := (by omega)
  have s_wp_wt : wp.heap.size < wt.heap.size := (by omega)
  have s_wq_wt : wq.heap.size < wt.heap.size := (by omega)
  go_wp2
  go_ret
  refine ⟨rfl, ?_⟩
  (repeat' (first | (with_reducible exact Below.refl _ _) | (with_reducible assumption) | (with_reducible refine Below.alloc ?_ ?_ _) | (with_reducible refine Below.drew ?_) | (with_reducible refine Below.setCell ?_ ?_ _) | (with_reducible refine Below.trans ?_ (Below.mono (by assumption) ?_)) | go_size))
end Go.Proofs.YtclopijbmjocmaaDoor
