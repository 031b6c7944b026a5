/-
  The walk of the statement PeriodPartition: every instant of p lies in exactly one of the intersection and the pieces of the difference. Conditions: the package-level variables read as the program lays them (Env).
-/
import Derived.Test.YtclopijbmjocmaaDoorPartPure
import Derived.WalkKit
import Derived.WalkSpells
import Derived.WalkLawsBesides
import Derived.Deep.QuietTactic
import Derived.BigQuiet
import Derived.Handy
import Derived.Lib.Hide
namespace Go.Proofs.YtclopijbmjocmaaDoor
open Go.RowKit

set_option maxRecDepth 100000 in
set_option maxHeartbeats 3200000 in
theorem part_fff (a b c d t : Int) (w : World) (henv : Env w) (ho : ovl a b c d = false) (hci : cnt (isX a b c d) (isY a b c d) t = false) (hin : cnt a b t = false) :
    Calls Tryd.prog 5 #[.agg #[.int .i64 a, .int .i64 b], .agg #[.int .i64 c, .int .i64 d], .int .i64 t] w fun e w' => e = .returned (.bool true) ∧ Below w.heap.size w w' := by
  have hmath := part_math a b c d t
  rw [ho, hci, hin] at hmath
  have HM := Lib.hid hmath
  have hlen := sub_len a b c d
  have HG := Lib.hid (merge_math a b c d t)
  generalize hl : subP a b c d = l at *
  have HL := Lib.hid hl
  clear hmath hl
  go_enter Tryd.func5, Tryd.ntmps5
  go_wp2_with fail
  refine (intersect_u a b c d _).mono ?_
  rintro e wa ⟨rfl, hb_wa⟩
  obtain ⟨hc_wa, hf_wa⟩ := bcell hb_wa
  have hz_wa := hb_wa.size
  (try simp only [World.size_alloc] at hz_wa)
  have s0_wa : w.heap.size < wa.heap.size := (by omega)
  have s1_wa : w.heap.size + 1 < wa.heap.size := (by omega)
  have kwaP0 : wa.cell? ⟨w.heap.size, 0, none⟩ = some (.int .i64 a) := (hc_wa _ _ (by simp; omega)).trans (cell_old (w.alloc _) _ _ _ _ (by simp) (cell_new w _ _ _ _ _ rfl rfl))
  have kwaP1 : wa.cell? ⟨w.heap.size, 1, none⟩ = some (.int .i64 b) := (hc_wa _ _ (by simp; omega)).trans (cell_old (w.alloc _) _ _ _ _ (by simp) (cell_new w _ _ _ _ _ rfl rfl))
  have kwaQ0 : wa.cell? ⟨w.heap.size + 1, 0, none⟩ = some (.int .i64 c) := (hc_wa _ _ (by simp)).trans (cell_new (w.alloc _) _ _ _ _ _ (by simp) rfl)
  have kwaQ1 : wa.cell? ⟨w.heap.size + 1, 1, none⟩ = some (.int .i64 d) := (hc_wa _ _ (by simp)).trans (cell_new (w.alloc _) _ _ _ _ _ (by simp) rfl)
  clear hc_wa hf_wa
  go_wp2_with fail
  refine (sub_any a b c d _).mono ?_
  rintro e ws ⟨v, rfl, hp, hb_ws⟩
  obtain ⟨hc_ws, hf_ws⟩ := bcell hb_ws
  have hz_ws := hb_ws.size
  (try simp only [World.size_alloc] at hz_ws)
  have s0_ws : w.heap.size < ws.heap.size := (by omega)
  have s1_ws : w.heap.size + 1 < ws.heap.size := (by omega)
  have kwsP0 : ws.cell? ⟨w.heap.size, 0, none⟩ = some (.int .i64 a) := (hc_ws _ _ (by simp; omega)).trans (cell_old _ _ _ _ _ s0_wa kwaP0)
  have kwsP1 : ws.cell? ⟨w.heap.size, 1, none⟩ = some (.int .i64 b) := (hc_ws _ _ (by simp; omega)).trans (cell_old _ _ _ _ _ s0_wa kwaP1)
  have kwsQ0 : ws.cell? ⟨w.heap.size + 1, 0, none⟩ = some (.int .i64 c) := (hc_ws _ _ (by simp; omega)).trans (cell_old _ _ _ _ _ s1_wa kwaQ0)
  have kwsQ1 : ws.cell? ⟨w.heap.size + 1, 1, none⟩ = some (.int .i64 d) := (hc_ws _ _ (by simp; omega)).trans (cell_old _ _ _ _ _ s1_wa kwaQ1)
  clear kwaP0 kwaP1 kwaQ0 kwaQ1
  clear hc_ws hf_ws
  rw [HL.out] at hp
  obtain ⟨A, cp, rfl, _⟩ := hp.form
  have HP := Lib.hid hp
  clear hp
  go_wp2
  have hcN : ∀ k, cN (l.take k) t ≤ 2 := fun k => Nat.le_trans (cN_le _ _) (by rw [List.length_take]; omega)
  have HN := Lib.hid hcN
  clear hcN
  have HB0 : Hid (Below w.heap.size w ws) := Lib.hid (by (repeat' (first | (with_reducible exact Below.refl _ _) | (with_reducible assumption) | (with_reducible refine Below.alloc ?_ ?_ _) | (with_reducible refine Below.drew ?_) | (with_reducible refine Below.setCell ?_ ?_ _) | (with_reducible refine Below.trans ?_ (Below.mono (by assumption) ?_)) | go_size)))
  go_loopw [7, 11] (fun n i wr => ∃ k : Nat, k ≤ l.length ∧ i = .int .i64 k ∧ n = .int .i64 (0 + (cN (l.take k) t : Nat)) ∧ Below ws.heap.size ws wr) (fun _ i _ => l.length - (intOf i).toNat)
  case atStart => exact ⟨0, Nat.zero_le _, rfl, by simp [cN], Below.refl _ _⟩
  case round =>
    obtain ⟨k, hk, rfl, rfl, hbr⟩ := hrel
    have hn2 := HN.out k
    by_cases hlt : k < l.length
    · obtain ⟨p, hp⟩ : ∃ p, l[k]? = some p := ⟨l[k], List.getElem?_eq_getElem hlt⟩
      rcases HP.out with ⟨h0, _⟩ | ⟨g, c', hv, hg, _, hcell⟩
      · rw [h0] at hlt; exact absurd hlt (by simp)
      · injection hv with hA _ hcc
        subst hA
        subst hcc
        obtain ⟨x1, x2⟩ := hcell k p hp
        clear hcell
        have y1 := (hbr.cell (p := ⟨g, k * 2, none⟩) hg).trans x1
        have y2 := (hbr.cell (p := ⟨g, k * 2 + 1, none⟩) hg).trans x2
        clear x1 x2
        have hst := cN_step hp t
        obtain ⟨p1, p2⟩ := p
        simp only at y1 y2 hst
        clear hp
        cases hcp : cnt p1 p2 t
        · rw [hcp] at hst
          have HS := Lib.hid hst
          clear hst
          go_wp2_with (go_at_call 11; refine (contains_any _ _ _ _).mono ?_; rintro e w1 ⟨rfl, hb⟩)
          go_roundw
          case rel => exact ⟨k + 1, by omega, by go_num, by rw [HS.out]; simp, hbr.trans (hb.mono hbr.size)⟩
          case measure => simp [intOf]; omega
        · rw [hcp] at hst
          have HS := Lib.hid hst
          clear hst
          go_wp2_with (go_at_call 11; refine (contains_any _ _ _ _).mono ?_; rintro e w1 ⟨rfl, hb⟩)
          go_roundw
          case rel => exact ⟨k + 1, by omega, by go_num, by rw [HS.out]; simp; try omega, hbr.trans (hb.mono hbr.size)⟩
          case measure => simp [intOf]; omega
    · have ht : ((0 : Int) + ((cN (l.take k) t : Nat) : Int)) = 0 := by
        rw [List.take_of_length_le (by omega)]
        have := HM.out
        simp at this
        omega
      rw [ht]
      obtain ⟨hcr, hfr⟩ := bcellB hbr
      have hzr := hbr.size
      have kP0 := (hcr _ _ s0_ws).trans kwsP0
      have kP1 := (hcr _ _ s0_ws).trans kwsP1
      have kQ0 := (hcr _ _ s1_ws).trans kwsQ0
      have kQ1 := (hcr _ _ s1_ws).trans kwsQ1
      have s0_wr : w.heap.size < wr.heap.size := (by omega)
      have s1_wr : w.heap.size + 1 < wr.heap.size := (by omega)
      clear hcr hfr kwsP0 kwsP1 kwsQ0 kwsQ1 hn2 ht
      have HBR : Hid (Below w.heap.size w wr) := Lib.hid (HB0.out.trans (hbr.mono HB0.out.size))
      have hmm := HG.out
      have HE : Hid (Env wr) := Lib.hid (henv.step HBR.out)
      cases hm : mrg a b c d
      · clear hmm
        go_wp2_with (first | (go_at_call 11; refine (contains_any _ _ _ _).mono ?_; rintro e w1 ⟨rfl, hb⟩; obtain ⟨hc, hf⟩ := bcell hb; have hz := hb.size; (try simp only [World.size_alloc] at hz); have hz0 : w.heap.size < w1.heap.size := (by omega); have hz1 : w.heap.size + 1 < w1.heap.size := (by omega)) | (go_at_call 22; refine (merge_u _ _ _ _ _).mono ?_; rintro e w1 ⟨rfl, hb⟩; obtain ⟨hc, hf⟩ := bcell hb; have hz := hb.size; (try simp only [World.size_alloc] at hz); have hz0 : w.heap.size < w1.heap.size := (by omega); have hz1 : w.heap.size + 1 < w1.heap.size := (by omega)) | (go_at_call 19; refine (awake_any _ (HE.out.step (by (repeat' (first | (with_reducible exact Below.refl _ _) | (with_reducible assumption) | (with_reducible refine Below.alloc ?_ ?_ _) | (with_reducible refine Below.drew ?_) | (with_reducible refine Below.setCell ?_ ?_ _) | (with_reducible refine Below.trans ?_ (Below.mono (by assumption) ?_)) | go_size))))).mono ?_; rintro e w1 ⟨rfl, hb⟩; obtain ⟨hc, hf⟩ := bcell hb; have hz := hb.size; (try simp only [World.size_alloc] at hz); have hz0 : w.heap.size < w1.heap.size := (by omega); have hz1 : w.heap.size + 1 < w1.heap.size := (by omega)))
        go_ret
        refine ⟨rfl, HBR.out.trans (Below.mono (B := wr.heap.size) ?_ HBR.out.size)⟩
        (repeat' (first | (with_reducible exact Below.refl _ _) | (with_reducible assumption) | (with_reducible refine Below.alloc ?_ ?_ _) | (with_reducible refine Below.drew ?_) | (with_reducible refine Below.setCell ?_ ?_ _) | (with_reducible refine Below.trans ?_ (Below.mono (by assumption) ?_)) | go_size))
      · have hmm := hmm hm
        rw [hin] at hmm
        cases hq : cnt c d t
        all_goals
          rw [hq] at hmm
          try simp only [Bool.false_or] at hmm
          go_wp2_with (first | (go_at_call 11; refine (contains_any _ _ _ _).mono ?_; rintro e w1 ⟨rfl, hb⟩; obtain ⟨hc, hf⟩ := bcell hb; have hz := hb.size; (try simp only [World.size_alloc] at hz); have hz0 : w.heap.size < w1.heap.size := (by omega); have hz1 : w.heap.size + 1 < w1.heap.size := (by omega)) | (go_at_call 22; refine (merge_u _ _ _ _ _).mono ?_; rintro e wm ⟨rfl, hb⟩; obtain ⟨hc, hf⟩ := bcell hb; have hz := hb.size; have hz0 : w.heap.size < wm.heap.size := (by omega); have hz1 : w.heap.size + 1 < wm.heap.size := (by omega)) | (go_at_call 19; refine (awake_any _ (HE.out.step (by (repeat' (first | (with_reducible exact Below.refl _ _) | (with_reducible assumption) | (with_reducible refine Below.alloc ?_ ?_ _) | (with_reducible refine Below.drew ?_) | (with_reducible refine Below.setCell ?_ ?_ _) | (with_reducible refine Below.trans ?_ (Below.mono (by assumption) ?_)) | go_size))))).mono ?_; rintro e w1 ⟨rfl, hb⟩; obtain ⟨hc, hf⟩ := bcell hb; have hz := hb.size; (try simp only [World.size_alloc] at hz); have hz0 : w.heap.size < w1.heap.size := (by omega); have hz1 : w.heap.size + 1 < w1.heap.size := (by omega)))
          go_ret
          refine ⟨rfl, HBR.out.trans (Below.mono (B := wr.heap.size) ?_ HBR.out.size)⟩
          (repeat' (first | (with_reducible exact Below.refl _ _) | (with_reducible assumption) | (with_reducible refine Below.alloc ?_ ?_ _) | (with_reducible refine Below.drew ?_) | (with_reducible refine Below.setCell ?_ ?_ _) | (with_reducible refine Below.trans ?_ (Below.mono (by assumption) ?_)) | go_size))

set_option maxRecDepth 100000 in
set_option maxHeartbeats 3200000 in
theorem part_fft (a b c d t : Int) (w : World) (henv : Env w) (ho : ovl a b c d = false) (hci : cnt (isX a b c d) (isY a b c d) t = false) (hin : cnt a b t = true) :
    Calls Tryd.prog 5 #[.agg #[.int .i64 a, .int .i64 b], .agg #[.int .i64 c, .int .i64 d], .int .i64 t] w fun e w' => e = .returned (.bool true) ∧ Below w.heap.size w w' := by
  have hmath := part_math a b c d t
  rw [ho, hci, hin] at hmath
  have HM := Lib.hid hmath
  have hlen := sub_len a b c d
  have HG := Lib.hid (merge_math a b c d t)
  generalize hl : subP a b c d = l at *
  have HL := Lib.hid hl
  clear hmath hl
  go_enter Tryd.func5, Tryd.ntmps5
  go_wp2_with fail
  refine (intersect_u a b c d _).mono ?_
  rintro e wa ⟨rfl, hb_wa⟩
  obtain ⟨hc_wa, hf_wa⟩ := bcell hb_wa
  have hz_wa := hb_wa.size
  (try simp only [World.size_alloc] at hz_wa)
  have s0_wa : w.heap.size < wa.heap.size := (by omega)
  have s1_wa : w.heap.size + 1 < wa.heap.size := (by omega)
  have kwaP0 : wa.cell? ⟨w.heap.size, 0, none⟩ = some (.int .i64 a) := (hc_wa _ _ (by simp; omega)).trans (cell_old (w.alloc _) _ _ _ _ (by simp) (cell_new w _ _ _ _ _ rfl rfl))
  have kwaP1 : wa.cell? ⟨w.heap.size, 1, none⟩ = some (.int .i64 b) := (hc_wa _ _ (by simp; omega)).trans (cell_old (w.alloc _) _ _ _ _ (by simp) (cell_new w _ _ _ _ _ rfl rfl))
  have kwaQ0 : wa.cell? ⟨w.heap.size + 1, 0, none⟩ = some (.int .i64 c) := (hc_wa _ _ (by simp)).trans (cell_new (w.alloc _) _ _ _ _ _ (by simp) rfl)
  have kwaQ1 : wa.cell? ⟨w.heap.size + 1, 1, none⟩ = some (.int .i64 d) := (hc_wa _ _ (by simp)).trans (cell_new (w.alloc _) _ _ _ _ _ (by simp) rfl)
  clear hc_wa hf_wa
  go_wp2_with fail
  refine (sub_any a b c d _).mono ?_
  rintro e ws ⟨v, rfl, hp, hb_ws⟩
  obtain ⟨hc_ws, hf_ws⟩ := bcell hb_ws
  have hz_ws := hb_ws.size
  (try simp only [World.size_alloc] at hz_ws)
  have s0_ws : w.heap.size < ws.heap.size := (by omega)
  have s1_ws : w.heap.size + 1 < ws.heap.size := (by omega)
  have kwsP0 : ws.cell? ⟨w.heap.size, 0, none⟩ = some (.int .i64 a) := (hc_ws _ _ (by simp; omega)).trans (cell_old _ _ _ _ _ s0_wa kwaP0)
  have kwsP1 : ws.cell? ⟨w.heap.size, 1, none⟩ = some (.int .i64 b) := (hc_ws _ _ (by simp; omega)).trans (cell_old _ _ _ _ _ s0_wa kwaP1)
  have kwsQ0 : ws.cell? ⟨w.heap.size + 1, 0, none⟩ = some (.int .i64 c) := (hc_ws _ _ (by simp; omega)).trans (cell_old _ _ _ _ _ s1_wa kwaQ0)
  have kwsQ1 : ws.cell? ⟨w.heap.size + 1, 1, none⟩ = some (.int .i64 d) := (hc_ws _ _ (by simp; omega)).trans (cell_old _ _ _ _ _ s1_wa kwaQ1)
  clear kwaP0 kwaP1 kwaQ0 kwaQ1
  clear hc_ws hf_ws
  rw [HL.out] at hp
  obtain ⟨A, cp, rfl, _⟩ := hp.form
  have HP := Lib.hid hp
  clear hp
  go_wp2
  have hcN : ∀ k, cN (l.take k) t ≤ 2 := fun k => Nat.le_trans (cN_le _ _) (by rw [List.length_take]; omega)
  have HN := Lib.hid hcN
  clear hcN
  have HB0 : Hid (Below w.heap.size w ws) := Lib.hid (by (repeat' (first | (with_reducible exact Below.refl _ _) | (with_reducible assumption) | (with_reducible refine Below.alloc ?_ ?_ _) | (with_reducible refine Below.drew ?_) | (with_reducible refine Below.setCell ?_ ?_ _) | (with_reducible refine Below.trans ?_ (Below.mono (by assumption) ?_)) | go_size)))
  go_loopw [7, 11] (fun n i wr => ∃ k : Nat, k ≤ l.length ∧ i = .int .i64 k ∧ n = .int .i64 (0 + (cN (l.take k) t : Nat)) ∧ Below ws.heap.size ws wr) (fun _ i _ => l.length - (intOf i).toNat)
  case atStart => exact ⟨0, Nat.zero_le _, rfl, by simp [cN], Below.refl _ _⟩
  case round =>
    obtain ⟨k, hk, rfl, rfl, hbr⟩ := hrel
    have hn2 := HN.out k
    by_cases hlt : k < l.length
    · obtain ⟨p, hp⟩ : ∃ p, l[k]? = some p := ⟨l[k], List.getElem?_eq_getElem hlt⟩
      rcases HP.out with ⟨h0, _⟩ | ⟨g, c', hv, hg, _, hcell⟩
      · rw [h0] at hlt; exact absurd hlt (by simp)
      · injection hv with hA _ hcc
        subst hA
        subst hcc
        obtain ⟨x1, x2⟩ := hcell k p hp
        clear hcell
        have y1 := (hbr.cell (p := ⟨g, k * 2, none⟩) hg).trans x1
        have y2 := (hbr.cell (p := ⟨g, k * 2 + 1, none⟩) hg).trans x2
        clear x1 x2
        have hst := cN_step hp t
        obtain ⟨p1, p2⟩ := p
        simp only at y1 y2 hst
        clear hp
        cases hcp : cnt p1 p2 t
        · rw [hcp] at hst
          have HS := Lib.hid hst
          clear hst
          go_wp2_with (go_at_call 11; refine (contains_any _ _ _ _).mono ?_; rintro e w1 ⟨rfl, hb⟩)
          go_roundw
          case rel => exact ⟨k + 1, by omega, by go_num, by rw [HS.out]; simp, hbr.trans (hb.mono hbr.size)⟩
          case measure => simp [intOf]; omega
        · rw [hcp] at hst
          have HS := Lib.hid hst
          clear hst
          go_wp2_with (go_at_call 11; refine (contains_any _ _ _ _).mono ?_; rintro e w1 ⟨rfl, hb⟩)
          go_roundw
          case rel => exact ⟨k + 1, by omega, by go_num, by rw [HS.out]; simp; try omega, hbr.trans (hb.mono hbr.size)⟩
          case measure => simp [intOf]; omega
    · have ht : ((0 : Int) + ((cN (l.take k) t : Nat) : Int)) = 1 := by
        rw [List.take_of_length_le (by omega)]
        have := HM.out
        simp at this
        omega
      rw [ht]
      obtain ⟨hcr, hfr⟩ := bcellB hbr
      have hzr := hbr.size
      have kP0 := (hcr _ _ s0_ws).trans kwsP0
      have kP1 := (hcr _ _ s0_ws).trans kwsP1
      have kQ0 := (hcr _ _ s1_ws).trans kwsQ0
      have kQ1 := (hcr _ _ s1_ws).trans kwsQ1
      have s0_wr : w.heap.size < wr.heap.size := (by omega)
      have s1_wr : w.heap.size + 1 < wr.heap.size := (by omega)
      clear hcr hfr kwsP0 kwsP1 kwsQ0 kwsQ1 hn2 ht
      have HBR : Hid (Below w.heap.size w wr) := Lib.hid (HB0.out.trans (hbr.mono HB0.out.size))
      have hmm := HG.out
      have HE : Hid (Env wr) := Lib.hid (henv.step HBR.out)
      cases hm : mrg a b c d
      · clear hmm
        go_wp2_with (first | (go_at_call 11; refine (contains_any _ _ _ _).mono ?_; rintro e w1 ⟨rfl, hb⟩; obtain ⟨hc, hf⟩ := bcell hb; have hz := hb.size; (try simp only [World.size_alloc] at hz); have hz0 : w.heap.size < w1.heap.size := (by omega); have hz1 : w.heap.size + 1 < w1.heap.size := (by omega)) | (go_at_call 22; refine (merge_u _ _ _ _ _).mono ?_; rintro e w1 ⟨rfl, hb⟩; obtain ⟨hc, hf⟩ := bcell hb; have hz := hb.size; (try simp only [World.size_alloc] at hz); have hz0 : w.heap.size < w1.heap.size := (by omega); have hz1 : w.heap.size + 1 < w1.heap.size := (by omega)) | (go_at_call 19; refine (awake_any _ (HE.out.step (by (repeat' (first | (with_reducible exact Below.refl _ _) | (with_reducible assumption) | (with_reducible refine Below.alloc ?_ ?_ _) | (with_reducible refine Below.drew ?_) | (with_reducible refine Below.setCell ?_ ?_ _) | (with_reducible refine Below.trans ?_ (Below.mono (by assumption) ?_)) | go_size))))).mono ?_; rintro e w1 ⟨rfl, hb⟩; obtain ⟨hc, hf⟩ := bcell hb; have hz := hb.size; (try simp only [World.size_alloc] at hz); have hz0 : w.heap.size < w1.heap.size := (by omega); have hz1 : w.heap.size + 1 < w1.heap.size := (by omega)))
        go_ret
        refine ⟨rfl, HBR.out.trans (Below.mono (B := wr.heap.size) ?_ HBR.out.size)⟩
        (repeat' (first | (with_reducible exact Below.refl _ _) | (with_reducible assumption) | (with_reducible refine Below.alloc ?_ ?_ _) | (with_reducible refine Below.drew ?_) | (with_reducible refine Below.setCell ?_ ?_ _) | (with_reducible refine Below.trans ?_ (Below.mono (by assumption) ?_)) | go_size))
      · have hmm := hmm hm
        rw [hin] at hmm
        cases hq : cnt c d t
        all_goals
          rw [hq] at hmm
          try simp only [Bool.true_or] at hmm
          go_wp2_with (first | (go_at_call 11; refine (contains_any _ _ _ _).mono ?_; rintro e w1 ⟨rfl, hb⟩; obtain ⟨hc, hf⟩ := bcell hb; have hz := hb.size; (try simp only [World.size_alloc] at hz); have hz0 : w.heap.size < w1.heap.size := (by omega); have hz1 : w.heap.size + 1 < w1.heap.size := (by omega)) | (go_at_call 22; refine (merge_u _ _ _ _ _).mono ?_; rintro e wm ⟨rfl, hb⟩; obtain ⟨hc, hf⟩ := bcell hb; have hz := hb.size; have hz0 : w.heap.size < wm.heap.size := (by omega); have hz1 : w.heap.size + 1 < wm.heap.size := (by omega)) | (go_at_call 19; refine (awake_any _ (HE.out.step (by (repeat' (first | (with_reducible exact Below.refl _ _) | (with_reducible assumption) | (with_reducible refine Below.alloc ?_ ?_ _) | (with_reducible refine Below.drew ?_) | (with_reducible refine Below.setCell ?_ ?_ _) | (with_reducible refine Below.trans ?_ (Below.mono (by assumption) ?_)) | go_size))))).mono ?_; rintro e w1 ⟨rfl, hb⟩; obtain ⟨hc, hf⟩ := bcell hb; have hz := hb.size; (try simp only [World.size_alloc] at hz); have hz0 : w.heap.size < w1.heap.size := (by omega); have hz1 : w.heap.size + 1 < w1.heap.size := (by omega)))
          go_ret
          refine ⟨rfl, HBR.out.trans (Below.mono (B := wr.heap.size) ?_ HBR.out.size)⟩
          (repeat' (first | (with_reducible exact Below.refl _ _) | (with_reducible assumption) | (with_reducible refine Below.alloc ?_ ?_ _) | (with_reducible refine Below.drew ?_) | (with_reducible refine Below.setCell ?_ ?_ _) | (with_reducible refine Below.trans ?_ (Below.mono (by assumption) ?_)) | go_size))

set_option maxRecDepth 100000 in
set_option maxHeartbeats 3200000 in
theorem part_ttt (a b c d t : Int) (w : World) (henv : Env w) (ho : ovl a b c d = true) (hci : cnt (isX a b c d) (isY a b c d) t = true) (hin : cnt a b t = true) :
    Calls Tryd.prog 5 #[.agg #[.int .i64 a, .int .i64 b], .agg #[.int .i64 c, .int .i64 d], .int .i64 t] w fun e w' => e = .returned (.bool true) ∧ Below w.heap.size w w' := by
  have hmath := part_math a b c d t
  rw [ho, hci, hin] at hmath
  have HM := Lib.hid hmath
  have hlen := sub_len a b c d
  have HG := Lib.hid (merge_math a b c d t)
  generalize hl : subP a b c d = l at *
  have HL := Lib.hid hl
  clear hmath hl
  go_enter Tryd.func5, Tryd.ntmps5
  go_wp2_with fail
  refine (intersect_u a b c d _).mono ?_
  rintro e wa ⟨rfl, hb_wa⟩
  obtain ⟨hc_wa, hf_wa⟩ := bcell hb_wa
  have hz_wa := hb_wa.size
  (try simp only [World.size_alloc] at hz_wa)
  have s0_wa : w.heap.size < wa.heap.size := (by omega)
  have s1_wa : w.heap.size + 1 < wa.heap.size := (by omega)
  have kwaP0 : wa.cell? ⟨w.heap.size, 0, none⟩ = some (.int .i64 a) := (hc_wa _ _ (by simp; omega)).trans (cell_old (w.alloc _) _ _ _ _ (by simp) (cell_new w _ _ _ _ _ rfl rfl))
  have kwaP1 : wa.cell? ⟨w.heap.size, 1, none⟩ = some (.int .i64 b) := (hc_wa _ _ (by simp; omega)).trans (cell_old (w.alloc _) _ _ _ _ (by simp) (cell_new w _ _ _ _ _ rfl rfl))
  have kwaQ0 : wa.cell? ⟨w.heap.size + 1, 0, none⟩ = some (.int .i64 c) := (hc_wa _ _ (by simp)).trans (cell_new (w.alloc _) _ _ _ _ _ (by simp) rfl)
  have kwaQ1 : wa.cell? ⟨w.heap.size + 1, 1, none⟩ = some (.int .i64 d) := (hc_wa _ _ (by simp)).trans (cell_new (w.alloc _) _ _ _ _ _ (by simp) rfl)
  clear hc_wa hf_wa
  go_wp2_with fail
  refine (contains_any _ _ t _).mono ?_
  rintro e wb ⟨rfl, hb_wb⟩
  obtain ⟨hc_wb, hf_wb⟩ := bcell hb_wb
  have hz_wb := hb_wb.size
  (try simp only [World.size_alloc] at hz_wb)
  have s0_wb : w.heap.size < wb.heap.size := (by omega)
  have s1_wb : w.heap.size + 1 < wb.heap.size := (by omega)
  have kwbP0 : wb.cell? ⟨w.heap.size, 0, none⟩ = some (.int .i64 a) := (hc_wb _ _ (by simp; omega)).trans (cell_old _ _ _ _ _ s0_wa kwaP0)
  have kwbP1 : wb.cell? ⟨w.heap.size, 1, none⟩ = some (.int .i64 b) := (hc_wb _ _ (by simp; omega)).trans (cell_old _ _ _ _ _ s0_wa kwaP1)
  have kwbQ0 : wb.cell? ⟨w.heap.size + 1, 0, none⟩ = some (.int .i64 c) := (hc_wb _ _ (by simp; omega)).trans (cell_old _ _ _ _ _ s1_wa kwaQ0)
  have kwbQ1 : wb.cell? ⟨w.heap.size + 1, 1, none⟩ = some (.int .i64 d) := (hc_wb _ _ (by simp; omega)).trans (cell_old _ _ _ _ _ s1_wa kwaQ1)
  clear kwaP0 kwaP1 kwaQ0 kwaQ1
  clear hc_wb hf_wb
  go_wp2_with fail
  refine (sub_any a b c d _).mono ?_
  rintro e ws ⟨v, rfl, hp, hb_ws⟩
  obtain ⟨hc_ws, hf_ws⟩ := bcell hb_ws
  have hz_ws := hb_ws.size
  (try simp only [World.size_alloc] at hz_ws)
  have s0_ws : w.heap.size < ws.heap.size := (by omega)
  have s1_ws : w.heap.size + 1 < ws.heap.size := (by omega)
  have kwsP0 : ws.cell? ⟨w.heap.size, 0, none⟩ = some (.int .i64 a) := (hc_ws _ _ (by omega)).trans kwbP0
  have kwsP1 : ws.cell? ⟨w.heap.size, 1, none⟩ = some (.int .i64 b) := (hc_ws _ _ (by omega)).trans kwbP1
  have kwsQ0 : ws.cell? ⟨w.heap.size + 1, 0, none⟩ = some (.int .i64 c) := (hc_ws _ _ (by omega)).trans kwbQ0
  have kwsQ1 : ws.cell? ⟨w.heap.size + 1, 1, none⟩ = some (.int .i64 d) := (hc_ws _ _ (by omega)).trans kwbQ1
  clear kwbP0 kwbP1 kwbQ0 kwbQ1
  clear hc_ws hf_ws
  rw [HL.out] at hp
  obtain ⟨A, cp, rfl, _⟩ := hp.form
  have HP := Lib.hid hp
  clear hp
  go_wp2
  have hcN : ∀ k, cN (l.take k) t ≤ 2 := fun k => Nat.le_trans (cN_le _ _) (by rw [List.length_take]; omega)
  have HN := Lib.hid hcN
  clear hcN
  have HB0 : Hid (Below w.heap.size w ws) := Lib.hid (by (repeat' (first | (with_reducible exact Below.refl _ _) | (with_reducible assumption) | (with_reducible refine Below.alloc ?_ ?_ _) | (with_reducible refine Below.drew ?_) | (with_reducible refine Below.setCell ?_ ?_ _) | (with_reducible refine Below.trans ?_ (Below.mono (by assumption) ?_)) | go_size)))
  go_loopw [7, 11] (fun n i wr => ∃ k : Nat, k ≤ l.length ∧ i = .int .i64 k ∧ n = .int .i64 (1 + (cN (l.take k) t : Nat)) ∧ Below ws.heap.size ws wr) (fun _ i _ => l.length - (intOf i).toNat)
  case atStart => exact ⟨0, Nat.zero_le _, rfl, by simp [cN], Below.refl _ _⟩
  case round =>
    obtain ⟨k, hk, rfl, rfl, hbr⟩ := hrel
    have hn2 := HN.out k
    by_cases hlt : k < l.length
    · obtain ⟨p, hp⟩ : ∃ p, l[k]? = some p := ⟨l[k], List.getElem?_eq_getElem hlt⟩
      rcases HP.out with ⟨h0, _⟩ | ⟨g, c', hv, hg, _, hcell⟩
      · rw [h0] at hlt; exact absurd hlt (by simp)
      · injection hv with hA _ hcc
        subst hA
        subst hcc
        obtain ⟨x1, x2⟩ := hcell k p hp
        clear hcell
        have y1 := (hbr.cell (p := ⟨g, k * 2, none⟩) hg).trans x1
        have y2 := (hbr.cell (p := ⟨g, k * 2 + 1, none⟩) hg).trans x2
        clear x1 x2
        have hst := cN_step hp t
        obtain ⟨p1, p2⟩ := p
        simp only at y1 y2 hst
        clear hp
        cases hcp : cnt p1 p2 t
        · rw [hcp] at hst
          have HS := Lib.hid hst
          clear hst
          go_wp2_with (go_at_call 11; refine (contains_any _ _ _ _).mono ?_; rintro e w1 ⟨rfl, hb⟩)
          go_roundw
          case rel => exact ⟨k + 1, by omega, by go_num, by rw [HS.out]; simp, hbr.trans (hb.mono hbr.size)⟩
          case measure => simp [intOf]; omega
        · rw [hcp] at hst
          have HS := Lib.hid hst
          clear hst
          go_wp2_with (go_at_call 11; refine (contains_any _ _ _ _).mono ?_; rintro e w1 ⟨rfl, hb⟩)
          go_roundw
          case rel => exact ⟨k + 1, by omega, by go_num, by rw [HS.out]; simp; try omega, hbr.trans (hb.mono hbr.size)⟩
          case measure => simp [intOf]; omega
    · have ht : ((1 : Int) + ((cN (l.take k) t : Nat) : Int)) = 1 := by
        rw [List.take_of_length_le (by omega)]
        have := HM.out
        simp at this
        omega
      rw [ht]
      obtain ⟨hcr, hfr⟩ := bcellB hbr
      have hzr := hbr.size
      have kP0 := (hcr _ _ s0_ws).trans kwsP0
      have kP1 := (hcr _ _ s0_ws).trans kwsP1
      have kQ0 := (hcr _ _ s1_ws).trans kwsQ0
      have kQ1 := (hcr _ _ s1_ws).trans kwsQ1
      have s0_wr : w.heap.size < wr.heap.size := (by omega)
      have s1_wr : w.heap.size + 1 < wr.heap.size := (by omega)
      clear hcr hfr kwsP0 kwsP1 kwsQ0 kwsQ1 hn2 ht
      have HBR : Hid (Below w.heap.size w wr) := Lib.hid (HB0.out.trans (hbr.mono HB0.out.size))
      have hmm := HG.out
      have HE : Hid (Env wr) := Lib.hid (henv.step HBR.out)
      cases hm : mrg a b c d
      · clear hmm
        go_wp2_with (first | (go_at_call 11; refine (contains_any _ _ _ _).mono ?_; rintro e w1 ⟨rfl, hb⟩; obtain ⟨hc, hf⟩ := bcell hb; have hz := hb.size; (try simp only [World.size_alloc] at hz); have hz0 : w.heap.size < w1.heap.size := (by omega); have hz1 : w.heap.size + 1 < w1.heap.size := (by omega)) | (go_at_call 22; refine (merge_u _ _ _ _ _).mono ?_; rintro e w1 ⟨rfl, hb⟩; obtain ⟨hc, hf⟩ := bcell hb; have hz := hb.size; (try simp only [World.size_alloc] at hz); have hz0 : w.heap.size < w1.heap.size := (by omega); have hz1 : w.heap.size + 1 < w1.heap.size := (by omega)) | (go_at_call 19; refine (awake_any _ (HE.out.step (by (repeat' (first | (with_reducible exact Below.refl _ _) | (with_reducible assumption) | (with_reducible refine Below.alloc ?_ ?_ _) | (with_reducible refine Below.drew ?_) | (with_reducible refine Below.setCell ?_ ?_ _) | (with_reducible refine Below.trans ?_ (Below.mono (by assumption) ?_)) | go_size))))).mono ?_; rintro e w1 ⟨rfl, hb⟩; obtain ⟨hc, hf⟩ := bcell hb; have hz := hb.size; (try simp only [World.size_alloc] at hz); have hz0 : w.heap.size < w1.heap.size := (by omega); have hz1 : w.heap.size + 1 < w1.heap.size := (by omega)))
        go_ret
        refine ⟨rfl, HBR.out.trans (Below.mono (B := wr.heap.size) ?_ HBR.out.size)⟩
        (repeat' (first | (with_reducible exact Below.refl _ _) | (with_reducible assumption) | (with_reducible refine Below.alloc ?_ ?_ _) | (with_reducible refine Below.drew ?_) | (with_reducible refine Below.setCell ?_ ?_ _) | (with_reducible refine Below.trans ?_ (Below.mono (by assumption) ?_)) | go_size))
      · have hmm := hmm hm
        rw [hin] at hmm
        cases hq : cnt c d t
        all_goals
          rw [hq] at hmm
          try simp only [Bool.true_or] at hmm
          go_wp2_with (first | (go_at_call 11; refine (contains_any _ _ _ _).mono ?_; rintro e w1 ⟨rfl, hb⟩; obtain ⟨hc, hf⟩ := bcell hb; have hz := hb.size; (try simp only [World.size_alloc] at hz); have hz0 : w.heap.size < w1.heap.size := (by omega); have hz1 : w.heap.size + 1 < w1.heap.size := (by omega)) | (go_at_call 22; refine (merge_u _ _ _ _ _).mono ?_; rintro e wm ⟨rfl, hb⟩; obtain ⟨hc, hf⟩ := bcell hb; have hz := hb.size; have hz0 : w.heap.size < wm.heap.size := (by omega); have hz1 : w.heap.size + 1 < wm.heap.size := (by omega)) | (go_at_call 19; refine (awake_any _ (HE.out.step (by (repeat' (first | (with_reducible exact Below.refl _ _) | (with_reducible assumption) | (with_reducible refine Below.alloc ?_ ?_ _) | (with_reducible refine Below.drew ?_) | (with_reducible refine Below.setCell ?_ ?_ _) | (with_reducible refine Below.trans ?_ (Below.mono (by assumption) ?_)) | go_size))))).mono ?_; rintro e w1 ⟨rfl, hb⟩; obtain ⟨hc, hf⟩ := bcell hb; have hz := hb.size; (try simp only [World.size_alloc] at hz); have hz0 : w.heap.size < w1.heap.size := (by omega); have hz1 : w.heap.size + 1 < w1.heap.size := (by omega)))
          go_ret
          refine ⟨rfl, HBR.out.trans (Below.mono (B := wr.heap.size) ?_ HBR.out.size)⟩
          (repeat' (first | (with_reducible exact Below.refl _ _) | (with_reducible assumption) | (with_reducible refine Below.alloc ?_ ?_ _) | (with_reducible refine Below.drew ?_) | (with_reducible refine Below.setCell ?_ ?_ _) | (with_reducible refine Below.trans ?_ (Below.mono (by assumption) ?_)) | go_size))

set_option maxRecDepth 100000 in
set_option maxHeartbeats 3200000 in
theorem part_tft (a b c d t : Int) (w : World) (henv : Env w) (ho : ovl a b c d = true) (hci : cnt (isX a b c d) (isY a b c d) t = false) (hin : cnt a b t = true) :
    Calls Tryd.prog 5 #[.agg #[.int .i64 a, .int .i64 b], .agg #[.int .i64 c, .int .i64 d], .int .i64 t] w fun e w' => e = .returned (.bool true) ∧ Below w.heap.size w w' := by
  have hmath := part_math a b c d t
  rw [ho, hci, hin] at hmath
  have HM := Lib.hid hmath
  have hlen := sub_len a b c d
  have HG := Lib.hid (merge_math a b c d t)
  generalize hl : subP a b c d = l at *
  have HL := Lib.hid hl
  clear hmath hl
  go_enter Tryd.func5, Tryd.ntmps5
  go_wp2_with fail
  refine (intersect_u a b c d _).mono ?_
  rintro e wa ⟨rfl, hb_wa⟩
  obtain ⟨hc_wa, hf_wa⟩ := bcell hb_wa
  have hz_wa := hb_wa.size
  (try simp only [World.size_alloc] at hz_wa)
  have s0_wa : w.heap.size < wa.heap.size := (by omega)
  have s1_wa : w.heap.size + 1 < wa.heap.size := (by omega)
  have kwaP0 : wa.cell? ⟨w.heap.size, 0, none⟩ = some (.int .i64 a) := (hc_wa _ _ (by simp; omega)).trans (cell_old (w.alloc _) _ _ _ _ (by simp) (cell_new w _ _ _ _ _ rfl rfl))
  have kwaP1 : wa.cell? ⟨w.heap.size, 1, none⟩ = some (.int .i64 b) := (hc_wa _ _ (by simp; omega)).trans (cell_old (w.alloc _) _ _ _ _ (by simp) (cell_new w _ _ _ _ _ rfl rfl))
  have kwaQ0 : wa.cell? ⟨w.heap.size + 1, 0, none⟩ = some (.int .i64 c) := (hc_wa _ _ (by simp)).trans (cell_new (w.alloc _) _ _ _ _ _ (by simp) rfl)
  have kwaQ1 : wa.cell? ⟨w.heap.size + 1, 1, none⟩ = some (.int .i64 d) := (hc_wa _ _ (by simp)).trans (cell_new (w.alloc _) _ _ _ _ _ (by simp) rfl)
  clear hc_wa hf_wa
  go_wp2_with fail
  refine (contains_any _ _ t _).mono ?_
  rintro e wb ⟨rfl, hb_wb⟩
  obtain ⟨hc_wb, hf_wb⟩ := bcell hb_wb
  have hz_wb := hb_wb.size
  (try simp only [World.size_alloc] at hz_wb)
  have s0_wb : w.heap.size < wb.heap.size := (by omega)
  have s1_wb : w.heap.size + 1 < wb.heap.size := (by omega)
  have kwbP0 : wb.cell? ⟨w.heap.size, 0, none⟩ = some (.int .i64 a) := (hc_wb _ _ (by simp; omega)).trans (cell_old _ _ _ _ _ s0_wa kwaP0)
  have kwbP1 : wb.cell? ⟨w.heap.size, 1, none⟩ = some (.int .i64 b) := (hc_wb _ _ (by simp; omega)).trans (cell_old _ _ _ _ _ s0_wa kwaP1)
  have kwbQ0 : wb.cell? ⟨w.heap.size + 1, 0, none⟩ = some (.int .i64 c) := (hc_wb _ _ (by simp; omega)).trans (cell_old _ _ _ _ _ s1_wa kwaQ0)
  have kwbQ1 : wb.cell? ⟨w.heap.size + 1, 1, none⟩ = some (.int .i64 d) := (hc_wb _ _ (by simp; omega)).trans (cell_old _ _ _ _ _ s1_wa kwaQ1)
  clear kwaP0 kwaP1 kwaQ0 kwaQ1
  clear hc_wb hf_wb
  go_wp2_with fail
  refine (sub_any a b c d _).mono ?_
  rintro e ws ⟨v, rfl, hp, hb_ws⟩
  obtain ⟨hc_ws, hf_ws⟩ := bcell hb_ws
  have hz_ws := hb_ws.size
  (try simp only [World.size_alloc] at hz_ws)
  have s0_ws : w.heap.size < ws.heap.size := (by omega)
  have s1_ws : w.heap.size + 1 < ws.heap.size := (by omega)
  have kwsP0 : ws.cell? ⟨w.heap.size, 0, none⟩ = some (.int .i64 a) := (hc_ws _ _ (by omega)).trans kwbP0
  have kwsP1 : ws.cell? ⟨w.heap.size, 1, none⟩ = some (.int .i64 b) := (hc_ws _ _ (by omega)).trans kwbP1
  have kwsQ0 : ws.cell? ⟨w.heap.size + 1, 0, none⟩ = some (.int .i64 c) := (hc_ws _ _ (by omega)).trans kwbQ0
  have kwsQ1 : ws.cell? ⟨w.heap.size + 1, 1, none⟩ = some (.int .i64 d) := (hc_ws _ _ (by omega)).trans kwbQ1
  clear kwbP0 kwbP1 kwbQ0 kwbQ1
  clear hc_ws hf_ws
  rw [HL.out] at hp
  obtain ⟨A, cp, rfl, _⟩ := hp.form
  have HP := Lib.hid hp
  clear hp
  go_wp2
  have hcN : ∀ k, cN (l.take k) t ≤ 2 := fun k => Nat.le_trans (cN_le _ _) (by rw [List.length_take]; omega)
  have HN := Lib.hid hcN
  clear hcN
  have HB0 : Hid (Below w.heap.size w ws) := Lib.hid (by (repeat' (first | (with_reducible exact Below.refl _ _) | (with_reducible assumption) | (with_reducible refine Below.alloc ?_ ?_ _) | (with_reducible refine Below.drew ?_) | (with_reducible refine Below.setCell ?_ ?_ _) | (with_reducible refine Below.trans ?_ (Below.mono (by assumption) ?_)) | go_size)))
  go_loopw [7, 11] (fun n i wr => ∃ k : Nat, k ≤ l.length ∧ i = .int .i64 k ∧ n = .int .i64 (0 + (cN (l.take k) t : Nat)) ∧ Below ws.heap.size ws wr) (fun _ i _ => l.length - (intOf i).toNat)
  case atStart => exact ⟨0, Nat.zero_le _, rfl, by simp [cN], Below.refl _ _⟩
  case round =>
    obtain ⟨k, hk, rfl, rfl, hbr⟩ := hrel
    have hn2 := HN.out k
    by_cases hlt : k < l.length
    · obtain ⟨p, hp⟩ : ∃ p, l[k]? = some p := ⟨l[k], List.getElem?_eq_getElem hlt⟩
      rcases HP.out with ⟨h0, _⟩ | ⟨g, c', hv, hg, _, hcell⟩
      · rw [h0] at hlt; exact absurd hlt (by simp)
      · injection hv with hA _ hcc
        subst hA
        subst hcc
        obtain ⟨x1, x2⟩ := hcell k p hp
        clear hcell
        have y1 := (hbr.cell (p := ⟨g, k * 2, none⟩) hg).trans x1
        have y2 := (hbr.cell (p := ⟨g, k * 2 + 1, none⟩) hg).trans x2
        clear x1 x2
        have hst := cN_step hp t
        obtain ⟨p1, p2⟩ := p
        simp only at y1 y2 hst
        clear hp
        cases hcp : cnt p1 p2 t
        · rw [hcp] at hst
          have HS := Lib.hid hst
          clear hst
          go_wp2_with (go_at_call 11; refine (contains_any _ _ _ _).mono ?_; rintro e w1 ⟨rfl, hb⟩)
          go_roundw
          case rel => exact ⟨k + 1, by omega, by go_num, by rw [HS.out]; simp, hbr.trans (hb.mono hbr.size)⟩
          case measure => simp [intOf]; omega
        · rw [hcp] at hst
          have HS := Lib.hid hst
          clear hst
          go_wp2_with (go_at_call 11; refine (contains_any _ _ _ _).mono ?_; rintro e w1 ⟨rfl, hb⟩)
          go_roundw
          case rel => exact ⟨k + 1, by omega, by go_num, by rw [HS.out]; simp; try omega, hbr.trans (hb.mono hbr.size)⟩
          case measure => simp [intOf]; omega
    · have ht : ((0 : Int) + ((cN (l.take k) t : Nat) : Int)) = 1 := by
        rw [List.take_of_length_le (by omega)]
        have := HM.out
        simp at this
        omega
      rw [ht]
      obtain ⟨hcr, hfr⟩ := bcellB hbr
      have hzr := hbr.size
      have kP0 := (hcr _ _ s0_ws).trans kwsP0
      have kP1 := (hcr _ _ s0_ws).trans kwsP1
      have kQ0 := (hcr _ _ s1_ws).trans kwsQ0
      have kQ1 := (hcr _ _ s1_ws).trans kwsQ1
      have s0_wr : w.heap.size < wr.heap.size := (by omega)
      have s1_wr : w.heap.size + 1 < wr.heap.size := (by omega)
      clear hcr hfr kwsP0 kwsP1 kwsQ0 kwsQ1 hn2 ht
      have HBR : Hid (Below w.heap.size w wr) := Lib.hid (HB0.out.trans (hbr.mono HB0.out.size))
      have hmm := HG.out
      have HE : Hid (Env wr) := Lib.hid (henv.step HBR.out)
      cases hm : mrg a b c d
      · clear hmm
        go_wp2_with (first | (go_at_call 11; refine (contains_any _ _ _ _).mono ?_; rintro e w1 ⟨rfl, hb⟩; obtain ⟨hc, hf⟩ := bcell hb; have hz := hb.size; (try simp only [World.size_alloc] at hz); have hz0 : w.heap.size < w1.heap.size := (by omega); have hz1 : w.heap.size + 1 < w1.heap.size := (by omega)) | (go_at_call 22; refine (merge_u _ _ _ _ _).mono ?_; rintro e w1 ⟨rfl, hb⟩; obtain ⟨hc, hf⟩ := bcell hb; have hz := hb.size; (try simp only [World.size_alloc] at hz); have hz0 : w.heap.size < w1.heap.size := (by omega); have hz1 : w.heap.size + 1 < w1.heap.size := (by omega)) | (go_at_call 19; refine (awake_any _ (HE.out.step (by (repeat' (first | (with_reducible exact Below.refl _ _) | (with_reducible assumption) | (with_reducible refine Below.alloc ?_ ?_ _) | (with_reducible refine Below.drew ?_) | (with_reducible refine Below.setCell ?_ ?_ _) | (with_reducible refine Below.trans ?_ (Below.mono (by assumption) ?_)) | go_size))))).mono ?_; rintro e w1 ⟨rfl, hb⟩; obtain ⟨hc, hf⟩ := bcell hb; have hz := hb.size; (try simp only [World.size_alloc] at hz); have hz0 : w.heap.size < w1.heap.size := (by omega); have hz1 : w.heap.size + 1 < w1.heap.size := (by omega)))
        go_ret
        refine ⟨rfl, HBR.out.trans (Below.mono (B := wr.heap.size) ?_ HBR.out.size)⟩
        (repeat' (first | (with_reducible exact Below.refl _ _) | (with_reducible assumption) | (with_reducible refine Below.alloc ?_ ?_ _) | (with_reducible refine Below.drew ?_) | (with_reducible refine Below.setCell ?_ ?_ _) | (with_reducible refine Below.trans ?_ (Below.mono (by assumption) ?_)) | go_size))
      · have hmm := hmm hm
        rw [hin] at hmm
        cases hq : cnt c d t
        all_goals
          rw [hq] at hmm
          try simp only [Bool.true_or] at hmm
          go_wp2_with (first | (go_at_call 11; refine (contains_any _ _ _ _).mono ?_; rintro e w1 ⟨rfl, hb⟩; obtain ⟨hc, hf⟩ := bcell hb; have hz := hb.size; (try simp only [World.size_alloc] at hz); have hz0 : w.heap.size < w1.heap.size := (by omega); have hz1 : w.heap.size + 1 < w1.heap.size := (by omega)) | (go_at_call 22; refine (merge_u _ _ _ _ _).mono ?_; rintro e wm ⟨rfl, hb⟩; obtain ⟨hc, hf⟩ := bcell hb; have hz := hb.size; have hz0 : w.heap.size < wm.heap.size := (by omega); have hz1 : w.heap.size + 1 < wm.heap.size := (by omega)) | (go_at_call 19; refine (awake_any _ (HE.out.step (by (repeat' (first | (with_reducible exact Below.refl _ _) | (with_reducible assumption) | (with_reducible refine Below.alloc ?_ ?_ _) | (with_reducible refine Below.drew ?_) | (with_reducible refine Below.setCell ?_ ?_ _) | (with_reducible refine Below.trans ?_ (Below.mono (by assumption) ?_)) | go_size))))).mono ?_; rintro e w1 ⟨rfl, hb⟩; obtain ⟨hc, hf⟩ := bcell hb; have hz := hb.size; (try simp only [World.size_alloc] at hz); have hz0 : w.heap.size < w1.heap.size := (by omega); have hz1 : w.heap.size + 1 < w1.heap.size := (by omega)))
          go_ret
          refine ⟨rfl, HBR.out.trans (Below.mono (B := wr.heap.size) ?_ HBR.out.size)⟩
          (repeat' (first | (with_reducible exact Below.refl _ _) | (with_reducible assumption) | (with_reducible refine Below.alloc ?_ ?_ _) | (with_reducible refine Below.drew ?_) | (with_reducible refine Below.setCell ?_ ?_ _) | (with_reducible refine Below.trans ?_ (Below.mono (by assumption) ?_)) | go_size))

set_option maxRecDepth 100000 in
set_option maxHeartbeats 3200000 in
theorem part_tff (a b c d t : Int) (w : World) (henv : Env w) (ho : ovl a b c d = true) (hci : cnt (isX a b c d) (isY a b c d) t = false) (hin : cnt a b t = false) :
    Calls Tryd.prog 5 #[.agg #[.int .i64 a, .int .i64 b], .agg #[.int .i64 c, .int .i64 d], .int .i64 t] w fun e w' => e = .returned (.bool true) ∧ Below w.heap.size w w' := by
  have hmath := part_math a b c d t
  rw [ho, hci, hin] at hmath
  have HM := Lib.hid hmath
  have hlen := sub_len a b c d
  have HG := Lib.hid (merge_math a b c d t)
  generalize hl : subP a b c d = l at *
  have HL := Lib.hid hl
  clear hmath hl
  go_enter Tryd.func5, Tryd.ntmps5
  go_wp2_with fail
  refine (intersect_u a b c d _).mono ?_
  rintro e wa ⟨rfl, hb_wa⟩
  obtain ⟨hc_wa, hf_wa⟩ := bcell hb_wa
  have hz_wa := hb_wa.size
  (try simp only [World.size_alloc] at hz_wa)
  have s0_wa : w.heap.size < wa.heap.size := (by omega)
  have s1_wa : w.heap.size + 1 < wa.heap.size := (by omega)
  have kwaP0 : wa.cell? ⟨w.heap.size, 0, none⟩ = some (.int .i64 a) := (hc_wa _ _ (by simp; omega)).trans (cell_old (w.alloc _) _ _ _ _ (by simp) (cell_new w _ _ _ _ _ rfl rfl))
  have kwaP1 : wa.cell? ⟨w.heap.size, 1, none⟩ = some (.int .i64 b) := (hc_wa _ _ (by simp; omega)).trans (cell_old (w.alloc _) _ _ _ _ (by simp) (cell_new w _ _ _ _ _ rfl rfl))
  have kwaQ0 : wa.cell? ⟨w.heap.size + 1, 0, none⟩ = some (.int .i64 c) := (hc_wa _ _ (by simp)).trans (cell_new (w.alloc _) _ _ _ _ _ (by simp) rfl)
  have kwaQ1 : wa.cell? ⟨w.heap.size + 1, 1, none⟩ = some (.int .i64 d) := (hc_wa _ _ (by simp)).trans (cell_new (w.alloc _) _ _ _ _ _ (by simp) rfl)
  clear hc_wa hf_wa
  go_wp2_with fail
  refine (contains_any _ _ t _).mono ?_
  rintro e wb ⟨rfl, hb_wb⟩
  obtain ⟨hc_wb, hf_wb⟩ := bcell hb_wb
  have hz_wb := hb_wb.size
  (try simp only [World.size_alloc] at hz_wb)
  have s0_wb : w.heap.size < wb.heap.size := (by omega)
  have s1_wb : w.heap.size + 1 < wb.heap.size := (by omega)
  have kwbP0 : wb.cell? ⟨w.heap.size, 0, none⟩ = some (.int .i64 a) := (hc_wb _ _ (by simp; omega)).trans (cell_old _ _ _ _ _ s0_wa kwaP0)
  have kwbP1 : wb.cell? ⟨w.heap.size, 1, none⟩ = some (.int .i64 b) := (hc_wb _ _ (by simp; omega)).trans (cell_old _ _ _ _ _ s0_wa kwaP1)
  have kwbQ0 : wb.cell? ⟨w.heap.size + 1, 0, none⟩ = some (.int .i64 c) := (hc_wb _ _ (by simp; omega)).trans (cell_old _ _ _ _ _ s1_wa kwaQ0)
  have kwbQ1 : wb.cell? ⟨w.heap.size + 1, 1, none⟩ = some (.int .i64 d) := (hc_wb _ _ (by simp; omega)).trans (cell_old _ _ _ _ _ s1_wa kwaQ1)
  clear kwaP0 kwaP1 kwaQ0 kwaQ1
  clear hc_wb hf_wb
  go_wp2_with fail
  refine (sub_any a b c d _).mono ?_
  rintro e ws ⟨v, rfl, hp, hb_ws⟩
  obtain ⟨hc_ws, hf_ws⟩ := bcell hb_ws
  have hz_ws := hb_ws.size
  (try simp only [World.size_alloc] at hz_ws)
  have s0_ws : w.heap.size < ws.heap.size := (by omega)
  have s1_ws : w.heap.size + 1 < ws.heap.size := (by omega)
  have kwsP0 : ws.cell? ⟨w.heap.size, 0, none⟩ = some (.int .i64 a) := (hc_ws _ _ (by omega)).trans kwbP0
  have kwsP1 : ws.cell? ⟨w.heap.size, 1, none⟩ = some (.int .i64 b) := (hc_ws _ _ (by omega)).trans kwbP1
  have kwsQ0 : ws.cell? ⟨w.heap.size + 1, 0, none⟩ = some (.int .i64 c) := (hc_ws _ _ (by omega)).trans kwbQ0
  have kwsQ1 : ws.cell? ⟨w.heap.size + 1, 1, none⟩ = some (.int .i64 d) := (hc_ws _ _ (by omega)).trans kwbQ1
  clear kwbP0 kwbP1 kwbQ0 kwbQ1
  clear hc_ws hf_ws
  rw [HL.out] at hp
  obtain ⟨A, cp, rfl, _⟩ := hp.form
  have HP := Lib.hid hp
  clear hp
  go_wp2
  have hcN : ∀ k, cN (l.take k) t ≤ 2 := fun k => Nat.le_trans (cN_le _ _) (by rw [List.length_take]; omega)
  have HN := Lib.hid hcN
  clear hcN
  have HB0 : Hid (Below w.heap.size w ws) := Lib.hid (by (repeat' (first | (with_reducible exact Below.refl _ _) | (with_reducible assumption) | (with_reducible refine Below.alloc ?_ ?_ _) | (with_reducible refine Below.drew ?_) | (with_reducible refine Below.setCell ?_ ?_ _) | (with_reducible refine Below.trans ?_ (Below.mono (by assumption) ?_)) | go_size)))
  go_loopw [7, 11] (fun n i wr => ∃ k : Nat, k ≤ l.length ∧ i = .int .i64 k ∧ n = .int .i64 (0 + (cN (l.take k) t : Nat)) ∧ Below ws.heap.size ws wr) (fun _ i _ => l.length - (intOf i).toNat)
  case atStart => exact ⟨0, Nat.zero_le _, rfl, by simp [cN], Below.refl _ _⟩
  case round =>
    obtain ⟨k, hk, rfl, rfl, hbr⟩ := hrel
    have hn2 := HN.out k
    by_cases hlt : k < l.length
    · obtain ⟨p, hp⟩ : ∃ p, l[k]? = some p := ⟨l[k], List.getElem?_eq_getElem hlt⟩
      rcases HP.out with ⟨h0, _⟩ | ⟨g, c', hv, hg, _, hcell⟩
      · rw [h0] at hlt; exact absurd hlt (by simp)
      · injection hv with hA _ hcc
        subst hA
        subst hcc
        obtain ⟨x1, x2⟩ := hcell k p hp
        clear hcell
        have y1 := (hbr.cell (p := ⟨g, k * 2, none⟩) hg).trans x1
        have y2 := (hbr.cell (p := ⟨g, k * 2 + 1, none⟩) hg).trans x2
        clear x1 x2
        have hst := cN_step hp t
        obtain ⟨p1, p2⟩ := p
        simp only at y1 y2 hst
        clear hp
        cases hcp : cnt p1 p2 t
        · rw [hcp] at hst
          have HS := Lib.hid hst
          clear hst
          go_wp2_with (go_at_call 11; refine (contains_any _ _ _ _).mono ?_; rintro e w1 ⟨rfl, hb⟩)
          go_roundw
          case rel => exact ⟨k + 1, by omega, by go_num, by rw [HS.out]; simp, hbr.trans (hb.mono hbr.size)⟩
          case measure => simp [intOf]; omega
        · rw [hcp] at hst
          have HS := Lib.hid hst
          clear hst
          go_wp2_with (go_at_call 11; refine (contains_any _ _ _ _).mono ?_; rintro e w1 ⟨rfl, hb⟩)
          go_roundw
          case rel => exact ⟨k + 1, by omega, by go_num, by rw [HS.out]; simp; try omega, hbr.trans (hb.mono hbr.size)⟩
          case measure => simp [intOf]; omega
    · have ht : ((0 : Int) + ((cN (l.take k) t : Nat) : Int)) = 0 := by
        rw [List.take_of_length_le (by omega)]
        have := HM.out
        simp at this
        omega
      rw [ht]
      obtain ⟨hcr, hfr⟩ := bcellB hbr
      have hzr := hbr.size
      have kP0 := (hcr _ _ s0_ws).trans kwsP0
      have kP1 := (hcr _ _ s0_ws).trans kwsP1
      have kQ0 := (hcr _ _ s1_ws).trans kwsQ0
      have kQ1 := (hcr _ _ s1_ws).trans kwsQ1
      have s0_wr : w.heap.size < wr.heap.size := (by omega)
      have s1_wr : w.heap.size + 1 < wr.heap.size := (by omega)
      clear hcr hfr kwsP0 kwsP1 kwsQ0 kwsQ1 hn2 ht
      have HBR : Hid (Below w.heap.size w wr) := Lib.hid (HB0.out.trans (hbr.mono HB0.out.size))
      have hmm := HG.out
      have HE : Hid (Env wr) := Lib.hid (henv.step HBR.out)
      cases hm : mrg a b c d
      · clear hmm
        go_wp2_with (first | (go_at_call 11; refine (contains_any _ _ _ _).mono ?_; rintro e w1 ⟨rfl, hb⟩; obtain ⟨hc, hf⟩ := bcell hb; have hz := hb.size; (try simp only [World.size_alloc] at hz); have hz0 : w.heap.size < w1.heap.size := (by omega); have hz1 : w.heap.size + 1 < w1.heap.size := (by omega)) | (go_at_call 22; refine (merge_u _ _ _ _ _).mono ?_; rintro e w1 ⟨rfl, hb⟩; obtain ⟨hc, hf⟩ := bcell hb; have hz := hb.size; (try simp only [World.size_alloc] at hz); have hz0 : w.heap.size < w1.heap.size := (by omega); have hz1 : w.heap.size + 1 < w1.heap.size := (by omega)) | (go_at_call 19; refine (awake_any _ (HE.out.step (by (repeat' (first | (with_reducible exact Below.refl _ _) | (with_reducible assumption) | (with_reducible refine Below.alloc ?_ ?_ _) | (with_reducible refine Below.drew ?_) | (with_reducible refine Below.setCell ?_ ?_ _) | (with_reducible refine Below.trans ?_ (Below.mono (by assumption) ?_)) | go_size))))).mono ?_; rintro e w1 ⟨rfl, hb⟩; obtain ⟨hc, hf⟩ := bcell hb; have hz := hb.size; (try simp only [World.size_alloc] at hz); have hz0 : w.heap.size < w1.heap.size := (by omega); have hz1 : w.heap.size + 1 < w1.heap.size := (by omega)))
        go_ret
        refine ⟨rfl, HBR.out.trans (Below.mono (B := wr.heap.size) ?_ HBR.out.size)⟩
        (repeat' (first | (with_reducible exact Below.refl _ _) | (with_reducible assumption) | (with_reducible refine Below.alloc ?_ ?_ _) | (with_reducible refine Below.drew ?_) | (with_reducible refine Below.setCell ?_ ?_ _) | (with_reducible refine Below.trans ?_ (Below.mono (by assumption) ?_)) | go_size))
      · have hmm := hmm hm
        rw [hin] at hmm
        cases hq : cnt c d t
        all_goals
          rw [hq] at hmm
          try simp only [Bool.false_or] at hmm
          go_wp2_with (first | (go_at_call 11; refine (contains_any _ _ _ _).mono ?_; rintro e w1 ⟨rfl, hb⟩; obtain ⟨hc, hf⟩ := bcell hb; have hz := hb.size; (try simp only [World.size_alloc] at hz); have hz0 : w.heap.size < w1.heap.size := (by omega); have hz1 : w.heap.size + 1 < w1.heap.size := (by omega)) | (go_at_call 22; refine (merge_u _ _ _ _ _).mono ?_; rintro e wm ⟨rfl, hb⟩; obtain ⟨hc, hf⟩ := bcell hb; have hz := hb.size; have hz0 : w.heap.size < wm.heap.size := (by omega); have hz1 : w.heap.size + 1 < wm.heap.size := (by omega)) | (go_at_call 19; refine (awake_any _ (HE.out.step (by (repeat' (first | (with_reducible exact Below.refl _ _) | (with_reducible assumption) | (with_reducible refine Below.alloc ?_ ?_ _) | (with_reducible refine Below.drew ?_) | (with_reducible refine Below.setCell ?_ ?_ _) | (with_reducible refine Below.trans ?_ (Below.mono (by assumption) ?_)) | go_size))))).mono ?_; rintro e w1 ⟨rfl, hb⟩; obtain ⟨hc, hf⟩ := bcell hb; have hz := hb.size; (try simp only [World.size_alloc] at hz); have hz0 : w.heap.size < w1.heap.size := (by omega); have hz1 : w.heap.size + 1 < w1.heap.size := (by omega)))
          go_ret
          refine ⟨rfl, HBR.out.trans (Below.mono (B := wr.heap.size) ?_ HBR.out.size)⟩
          (repeat' (first | (with_reducible exact Below.refl _ _) | (with_reducible assumption) | (with_reducible refine Below.alloc ?_ ?_ _) | (with_reducible refine Below.drew ?_) | (with_reducible refine Below.setCell ?_ ?_ _) | (with_reducible refine Below.trans ?_ (Below.mono (by assumption) ?_)) | go_size))

theorem partition_any (a b c d t : Int) (w : World) (henv : Env w) :
    Calls Tryd.prog 5 #[.agg #[.int .i64 a, .int .i64 b], .agg #[.int .i64 c, .int .i64 d], .int .i64 t] w fun e w' => e = .returned (.bool true) ∧ Below w.heap.size w w' := by
  cases ho : ovl a b c d
  · have hci : cnt (isX a b c d) (isY a b c d) t = false := by
      unfold isX isY; rw [ho]; simp [cnt, vld]
    cases hin : cnt a b t
    · exact part_fff a b c d t w henv ho hci hin
    · exact part_fft a b c d t w henv ho hci hin
  · cases hci : cnt (isX a b c d) (isY a b c d) t <;> cases hin : cnt a b t
    · exact part_tff a b c d t w henv ho hci hin
    · exact part_tft a b c d t w henv ho hci hin
    · have := part_math a b c d t
      rw [ho, hci, hin] at this
      simp at this
    · exact part_ttt a b c d t w henv ho hci hin
end Go.Proofs.YtclopijbmjocmaaDoor
