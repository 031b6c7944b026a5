/-
  The walk of the statement PeriodCombines: intersection, union and difference are as defined. Conditions: the package-level variables read as the program lays them (Env).
-/
import Derived.Test.YtclopijbmjocmaaDoorAwake
import Derived.Deep.RegionHeld3
import Derived.WalkKit
import Derived.WalkSpells
import Derived.WalkLawsBesides
import Derived.Deep.QuietTactic
import Derived.BigQuiet
import Derived.Handy
import Derived.Lib.Hide
namespace Go.Proofs.YtclopijbmjocmaaDoor
open Go.RowKit

def isX (a b c d : Int) : Int := if ovl a b c d then max a c else 0
def isY (a b c d : Int) : Int := if ovl a b c d then min b d else 0
def mrg (a b c d : Int) : Bool := ovl a b c d || adj a b c d
def mgX (a b c d : Int) : Int := if mrg a b c d then min a c else 0
def mgY (a b c d : Int) : Int := if mrg a b c d then max b d else 0

theorem intersect_u (a b c d : Int) (w : World) :
    Calls Tryd.prog 20 #[.agg #[.int .i64 a, .int .i64 b], .agg #[.int .i64 c, .int .i64 d]] w fun e w' => e = .returned (.tuple #[.agg #[.int .i64 (isX a b c d), .int .i64 (isY a b c d)], .bool (ovl a b c d)]) ∧ Below w.heap.size w w' := by
  unfold isX isY
  cases h : ovl a b c d
  · exact intersect_no a b c d w h
  · exact intersect_yes a b c d w h
theorem merge_u (a b c d : Int) (w : World) :
    Calls Tryd.prog 22 #[.agg #[.int .i64 a, .int .i64 b], .agg #[.int .i64 c, .int .i64 d]] w fun e w' => e = .returned (.tuple #[.agg #[.int .i64 (mgX a b c d), .int .i64 (mgY a b c d)], .bool (mrg a b c d)]) ∧ Below w.heap.size w w' := by
  unfold mgX mgY
  cases h : mrg a b c d
  · unfold mrg at h
    rw [Bool.or_eq_false_iff] at h
    exact merge_no a b c d w h.1 h.2
  · exact merge_yes a b c d w h

theorem rintersect_u (a b c d : Int) (w : World) :
    Calls Tryd.prog 21 #[.agg #[.int .i64 a, .int .i64 b], .agg #[.int .i64 c, .int .i64 d]] w fun e w' => e = .returned (.tuple #[.agg #[.int .i64 (isX a b c d), .int .i64 (isY a b c d)], .bool (ovl a b c d)]) ∧ Below w.heap.size w w' := by
  unfold isX isY
  cases h : ovl a b c d
  · exact rintersect_no a b c d w h
  · exact rintersect_yes a b c d w h
theorem rmerge_u (a b c d : Int) (w : World) :
    Calls Tryd.prog 23 #[.agg #[.int .i64 a, .int .i64 b], .agg #[.int .i64 c, .int .i64 d]] w fun e w' => e = .returned (.tuple #[.agg #[.int .i64 (mgX a b c d), .int .i64 (mgY a b c d)], .bool (mrg a b c d)]) ∧ Below w.heap.size w w' := by
  unfold mgX mgY
  cases h : mrg a b c d
  · unfold mrg at h
    rw [Bool.or_eq_false_iff] at h
    exact rmerge_no a b c d w h.1 h.2
  · exact rmerge_yes a b c d w h

theorem same_b (u v : Value) (l m : List (Int × Int)) (w : World) (hu : PerSl w w.heap.size u l) (hv : PerSl w w.heap.size v m) :
    Calls Tryd.prog 24 #[u, v] w fun e w' => e = .returned (.bool (decide (l = m))) ∧ Below w.heap.size w w' :=
  (same_any u v l m w hu hv).mono fun _ _ ⟨he, n, hw⟩ => ⟨he, by rw [hw]; exact below_drewN (Below.refl _ _) n⟩

theorem cell_new (W : World) (cs : Array Value) (t : TypeId) (n i : Nat) (v : Value) (h : n = W.heap.size) (hv : cs[i]? = some v) : (W.alloc (.cells cs t)).cell? ⟨n, i, none⟩ = some v := by
  subst h; simpa using hv
theorem cell_old (W : World) (o : Obj) (n i : Nat) (v : Value) (h : n < W.heap.size) (hv : W.cell? ⟨n, i, none⟩ = some v) : (W.alloc o).cell? ⟨n, i, none⟩ = some v :=
  (World.cell?_alloc_lt W o ⟨n, i, none⟩ h).trans hv

set_option maxRecDepth 100000 in
set_option maxHeartbeats 3200000 in
theorem combines_any (a b c d : Int) (w : World) (henv : Env w) :
    Calls Tryd.prog 4 #[.agg #[.int .i64 a, .int .i64 b], .agg #[.int .i64 c, .int .i64 d]] w fun e w' => e = .returned (.bool true) ∧ Below w.heap.size w w' := by
  go_enter Tryd.func4, Tryd.ntmps4
  go_wp2_with fail
  refine (intersect_u a b c d _).mono ?_
  rintro e wa ⟨rfl, hb_wa⟩
  obtain ⟨hc_wa, hf_wa⟩ := bcell hb_wa
  have hz_wa := hb_wa.size
  (try simp only [World.size_alloc] at hz_wa)
  have s0_wa : w.heap.size < wa.heap.size := (by omega)
  have s1_wa : w.heap.size + 1 < wa.heap.size := (by omega)
  have kwaP0 : wa.cell? ⟨w.heap.size, 0, none⟩ = some (.int .i64 a) := (hc_wa _ _ (by simp; omega)).trans (cell_old (w.alloc _) _ _ _ _ (by simp) (cell_new w _ _ _ _ _ rfl rfl))
  have kwaP1 : wa.cell? ⟨w.heap.size, 1, none⟩ = some (.int .i64 b) := (hc_wa _ _ (by simp; omega)).trans (cell_old (w.alloc _) _ _ _ _ (by simp) (cell_new w _ _ _ _ _ rfl rfl))
  have kwaQ0 : wa.cell? ⟨w.heap.size + 1, 0, none⟩ = some (.int .i64 c) := (hc_wa _ _ (by simp)).trans (cell_new (w.alloc _) _ _ _ _ _ (by simp) rfl)
  have kwaQ1 : wa.cell? ⟨w.heap.size + 1, 1, none⟩ = some (.int .i64 d) := (hc_wa _ _ (by simp)).trans (cell_new (w.alloc _) _ _ _ _ _ (by simp) rfl)
  clear hc_wa hf_wa
  go_wp2_with fail
  refine (rintersect_u a b c d _).mono ?_
  rintro e wb ⟨rfl, hb_wb⟩
  obtain ⟨hc_wb, hf_wb⟩ := bcell hb_wb
  have hz_wb := hb_wb.size
  (try simp only [World.size_alloc] at hz_wb)
  have s0_wb : w.heap.size < wb.heap.size := (by omega)
  have s1_wb : w.heap.size + 1 < wb.heap.size := (by omega)
  have s_wa_wb : wa.heap.size < wb.heap.size := (by omega)
  have kwbP0 : wb.cell? ⟨w.heap.size, 0, none⟩ = some (.int .i64 a) := (hc_wb _ _ (by simp; omega)).trans (cell_old _ _ _ _ _ s0_wa kwaP0)
  have kwbP1 : wb.cell? ⟨w.heap.size, 1, none⟩ = some (.int .i64 b) := (hc_wb _ _ (by simp; omega)).trans (cell_old _ _ _ _ _ s0_wa kwaP1)
  have kwbQ0 : wb.cell? ⟨w.heap.size + 1, 0, none⟩ = some (.int .i64 c) := (hc_wb _ _ (by simp; omega)).trans (cell_old _ _ _ _ _ s1_wa kwaQ0)
  have kwbQ1 : wb.cell? ⟨w.heap.size + 1, 1, none⟩ = some (.int .i64 d) := (hc_wb _ _ (by simp; omega)).trans (cell_old _ _ _ _ _ s1_wa kwaQ1)
  have kwbwa0 : wb.cell? ⟨wa.heap.size, 0, none⟩ = some (.int .i64 (isX a b c d)) := (hc_wb _ _ (by simp)).trans (cell_new _ _ _ _ _ _ rfl rfl)
  have kwbwa1 : wb.cell? ⟨wa.heap.size, 1, none⟩ = some (.int .i64 (isY a b c d)) := (hc_wb _ _ (by simp)).trans (cell_new _ _ _ _ _ _ rfl rfl)
  clear kwaP0 kwaP1 kwaQ0 kwaQ1
  clear hc_wb hf_wb
  go_wp2_with fail
  refine (merge_u a b c d _).mono ?_
  rintro e wc ⟨rfl, hb_wc⟩
  obtain ⟨hc_wc, hf_wc⟩ := bcell hb_wc
  have hz_wc := hb_wc.size
  (try simp only [World.size_alloc] at hz_wc)
  have s0_wc : w.heap.size < wc.heap.size := (by omega)
  have s1_wc : w.heap.size + 1 < wc.heap.size := (by omega)
  have s_wa_wc : wa.heap.size < wc.heap.size := (by omega)
  have s_wb_wc : wb.heap.size < wc.heap.size := (by omega)
  have kwcP0 : wc.cell? ⟨w.heap.size, 0, none⟩ = some (.int .i64 a) := (hc_wc _ _ (by simp; omega)).trans (cell_old _ _ _ _ _ s0_wb kwbP0)
  have kwcP1 : wc.cell? ⟨w.heap.size, 1, none⟩ = some (.int .i64 b) := (hc_wc _ _ (by simp; omega)).trans (cell_old _ _ _ _ _ s0_wb kwbP1)
  have kwcQ0 : wc.cell? ⟨w.heap.size + 1, 0, none⟩ = some (.int .i64 c) := (hc_wc _ _ (by simp; omega)).trans (cell_old _ _ _ _ _ s1_wb kwbQ0)
  have kwcQ1 : wc.cell? ⟨w.heap.size + 1, 1, none⟩ = some (.int .i64 d) := (hc_wc _ _ (by simp; omega)).trans (cell_old _ _ _ _ _ s1_wb kwbQ1)
  have kwcwa0 : wc.cell? ⟨wa.heap.size, 0, none⟩ = some (.int .i64 (isX a b c d)) := (hc_wc _ _ (by simp; omega)).trans (cell_old _ _ _ _ _ s_wa_wb kwbwa0)
  have kwcwa1 : wc.cell? ⟨wa.heap.size, 1, none⟩ = some (.int .i64 (isY a b c d)) := (hc_wc _ _ (by simp; omega)).trans (cell_old _ _ _ _ _ s_wa_wb kwbwa1)
  have kwcwb0 : wc.cell? ⟨wb.heap.size, 0, none⟩ = some (.int .i64 (isX a b c d)) := (hc_wc _ _ (by simp)).trans (cell_new _ _ _ _ _ _ rfl rfl)
  have kwcwb1 : wc.cell? ⟨wb.heap.size, 1, none⟩ = some (.int .i64 (isY a b c d)) := (hc_wc _ _ (by simp)).trans (cell_new _ _ _ _ _ _ rfl rfl)
  clear kwbP0 kwbP1 kwbQ0 kwbQ1 kwbwa0 kwbwa1
  clear hc_wc hf_wc
  go_wp2_with fail
  refine (rmerge_u a b c d _).mono ?_
  rintro e wd ⟨rfl, hb_wd⟩
  obtain ⟨hc_wd, hf_wd⟩ := bcell hb_wd
  have hz_wd := hb_wd.size
  (try simp only [World.size_alloc] at hz_wd)
  have s0_wd : w.heap.size < wd.heap.size := (by omega)
  have s1_wd : w.heap.size + 1 < wd.heap.size := (by omega)
  have s_wa_wd : wa.heap.size < wd.heap.size := (by omega)
  have s_wb_wd : wb.heap.size < wd.heap.size := (by omega)
  have s_wc_wd : wc.heap.size < wd.heap.size := (by omega)
  have kwdP0 : wd.cell? ⟨w.heap.size, 0, none⟩ = some (.int .i64 a) := (hc_wd _ _ (by simp; omega)).trans (cell_old _ _ _ _ _ s0_wc kwcP0)
  have kwdP1 : wd.cell? ⟨w.heap.size, 1, none⟩ = some (.int .i64 b) := (hc_wd _ _ (by simp; omega)).trans (cell_old _ _ _ _ _ s0_wc kwcP1)
  have kwdQ0 : wd.cell? ⟨w.heap.size + 1, 0, none⟩ = some (.int .i64 c) := (hc_wd _ _ (by simp; omega)).trans (cell_old _ _ _ _ _ s1_wc kwcQ0)
  have kwdQ1 : wd.cell? ⟨w.heap.size + 1, 1, none⟩ = some (.int .i64 d) := (hc_wd _ _ (by simp; omega)).trans (cell_old _ _ _ _ _ s1_wc kwcQ1)
  have kwdwa0 : wd.cell? ⟨wa.heap.size, 0, none⟩ = some (.int .i64 (isX a b c d)) := (hc_wd _ _ (by simp; omega)).trans (cell_old _ _ _ _ _ s_wa_wc kwcwa0)
  have kwdwa1 : wd.cell? ⟨wa.heap.size, 1, none⟩ = some (.int .i64 (isY a b c d)) := (hc_wd _ _ (by simp; omega)).trans (cell_old _ _ _ _ _ s_wa_wc kwcwa1)
  have kwdwb0 : wd.cell? ⟨wb.heap.size, 0, none⟩ = some (.int .i64 (isX a b c d)) := (hc_wd _ _ (by simp; omega)).trans (cell_old _ _ _ _ _ s_wb_wc kwcwb0)
  have kwdwb1 : wd.cell? ⟨wb.heap.size, 1, none⟩ = some (.int .i64 (isY a b c d)) := (hc_wd _ _ (by simp; omega)).trans (cell_old _ _ _ _ _ s_wb_wc kwcwb1)
  have kwdwc0 : wd.cell? ⟨wc.heap.size, 0, none⟩ = some (.int .i64 (mgX a b c d)) := (hc_wd _ _ (by simp)).trans (cell_new _ _ _ _ _ _ rfl rfl)
  have kwdwc1 : wd.cell? ⟨wc.heap.size, 1, none⟩ = some (.int .i64 (mgY a b c d)) := (hc_wd _ _ (by simp)).trans (cell_new _ _ _ _ _ _ rfl rfl)
  clear kwcP0 kwcP1 kwcQ0 kwcQ1 kwcwa0 kwcwa1 kwcwb0 kwcwb1
  clear hc_wd hf_wd
  go_wp2_with fail
  have qP0 : ((wd.alloc (.cells #[.int .i64 (mgX a b c d), .int .i64 (mgY a b c d)] 23)).drew).cell? ⟨w.heap.size, 0, none⟩ = some (.int .i64 a) := cell_old wd _ _ _ _ s0_wd kwdP0
  have lP0 : w.heap.size < ((wd.alloc (.cells #[.int .i64 (mgX a b c d), .int .i64 (mgY a b c d)] 23)).drew).heap.size := by simp; try omega
  have qP1 : ((wd.alloc (.cells #[.int .i64 (mgX a b c d), .int .i64 (mgY a b c d)] 23)).drew).cell? ⟨w.heap.size, 1, none⟩ = some (.int .i64 b) := cell_old wd _ _ _ _ s0_wd kwdP1
  have lP1 : w.heap.size < ((wd.alloc (.cells #[.int .i64 (mgX a b c d), .int .i64 (mgY a b c d)] 23)).drew).heap.size := by simp; try omega
  have qQ0 : ((wd.alloc (.cells #[.int .i64 (mgX a b c d), .int .i64 (mgY a b c d)] 23)).drew).cell? ⟨w.heap.size + 1, 0, none⟩ = some (.int .i64 c) := cell_old wd _ _ _ _ s1_wd kwdQ0
  have lQ0 : w.heap.size + 1 < ((wd.alloc (.cells #[.int .i64 (mgX a b c d), .int .i64 (mgY a b c d)] 23)).drew).heap.size := by simp; try omega
  have qQ1 : ((wd.alloc (.cells #[.int .i64 (mgX a b c d), .int .i64 (mgY a b c d)] 23)).drew).cell? ⟨w.heap.size + 1, 1, none⟩ = some (.int .i64 d) := cell_old wd _ _ _ _ s1_wd kwdQ1
  have lQ1 : w.heap.size + 1 < ((wd.alloc (.cells #[.int .i64 (mgX a b c d), .int .i64 (mgY a b c d)] 23)).drew).heap.size := by simp; try omega
  have qwa0 : ((wd.alloc (.cells #[.int .i64 (mgX a b c d), .int .i64 (mgY a b c d)] 23)).drew).cell? ⟨wa.heap.size, 0, none⟩ = some (.int .i64 (isX a b c d)) := cell_old wd _ _ _ _ s_wa_wd kwdwa0
  have lwa0 : wa.heap.size < ((wd.alloc (.cells #[.int .i64 (mgX a b c d), .int .i64 (mgY a b c d)] 23)).drew).heap.size := by simp; try omega
  have qwa1 : ((wd.alloc (.cells #[.int .i64 (mgX a b c d), .int .i64 (mgY a b c d)] 23)).drew).cell? ⟨wa.heap.size, 1, none⟩ = some (.int .i64 (isY a b c d)) := cell_old wd _ _ _ _ s_wa_wd kwdwa1
  have lwa1 : wa.heap.size < ((wd.alloc (.cells #[.int .i64 (mgX a b c d), .int .i64 (mgY a b c d)] 23)).drew).heap.size := by simp; try omega
  have qwb0 : ((wd.alloc (.cells #[.int .i64 (mgX a b c d), .int .i64 (mgY a b c d)] 23)).drew).cell? ⟨wb.heap.size, 0, none⟩ = some (.int .i64 (isX a b c d)) := cell_old wd _ _ _ _ s_wb_wd kwdwb0
  have lwb0 : wb.heap.size < ((wd.alloc (.cells #[.int .i64 (mgX a b c d), .int .i64 (mgY a b c d)] 23)).drew).heap.size := by simp; try omega
  have qwb1 : ((wd.alloc (.cells #[.int .i64 (mgX a b c d), .int .i64 (mgY a b c d)] 23)).drew).cell? ⟨wb.heap.size, 1, none⟩ = some (.int .i64 (isY a b c d)) := cell_old wd _ _ _ _ s_wb_wd kwdwb1
  have lwb1 : wb.heap.size < ((wd.alloc (.cells #[.int .i64 (mgX a b c d), .int .i64 (mgY a b c d)] 23)).drew).heap.size := by simp; try omega
  have qwc0 : ((wd.alloc (.cells #[.int .i64 (mgX a b c d), .int .i64 (mgY a b c d)] 23)).drew).cell? ⟨wc.heap.size, 0, none⟩ = some (.int .i64 (mgX a b c d)) := cell_old wd _ _ _ _ s_wc_wd kwdwc0
  have lwc0 : wc.heap.size < ((wd.alloc (.cells #[.int .i64 (mgX a b c d), .int .i64 (mgY a b c d)] 23)).drew).heap.size := by simp; try omega
  have qwc1 : ((wd.alloc (.cells #[.int .i64 (mgX a b c d), .int .i64 (mgY a b c d)] 23)).drew).cell? ⟨wc.heap.size, 1, none⟩ = some (.int .i64 (mgY a b c d)) := cell_old wd _ _ _ _ s_wc_wd kwdwc1
  have lwc1 : wc.heap.size < ((wd.alloc (.cells #[.int .i64 (mgX a b c d), .int .i64 (mgY a b c d)] 23)).drew).heap.size := by simp; try omega
  have qwd0 : ((wd.alloc (.cells #[.int .i64 (mgX a b c d), .int .i64 (mgY a b c d)] 23)).drew).cell? ⟨wd.heap.size, 0, none⟩ = some (.int .i64 (mgX a b c d)) := cell_new wd _ _ _ _ _ rfl rfl
  have lwd0 : wd.heap.size < ((wd.alloc (.cells #[.int .i64 (mgX a b c d), .int .i64 (mgY a b c d)] 23)).drew).heap.size := by simp; try omega
  have qwd1 : ((wd.alloc (.cells #[.int .i64 (mgX a b c d), .int .i64 (mgY a b c d)] 23)).drew).cell? ⟨wd.heap.size, 1, none⟩ = some (.int .i64 (mgY a b c d)) := cell_new wd _ _ _ _ _ rfl rfl
  have lwd1 : wd.heap.size < ((wd.alloc (.cells #[.int .i64 (mgX a b c d), .int .i64 (mgY a b c d)] 23)).drew).heap.size := by simp; try omega
  have henv2 : Env ((wd.alloc (.cells #[.int .i64 (mgX a b c d), .int .i64 (mgY a b c d)] 23)).drew) := henv.step (by (repeat' (first | (with_reducible exact Below.refl _ _) | (with_reducible assumption) | (with_reducible refine Below.alloc ?_ ?_ _) | (with_reducible refine Below.drew ?_) | (with_reducible refine Below.setCell ?_ ?_ _) | (with_reducible refine Below.trans ?_ (Below.mono (by assumption) ?_)) | go_size)))
  have hbel : Below w.heap.size w ((wd.alloc (.cells #[.int .i64 (mgX a b c d), .int .i64 (mgY a b c d)] 23)).drew) := (by (repeat' (first | (with_reducible exact Below.refl _ _) | (with_reducible assumption) | (with_reducible refine Below.alloc ?_ ?_ _) | (with_reducible refine Below.drew ?_) | (with_reducible refine Below.setCell ?_ ?_ _) | (with_reducible refine Below.trans ?_ (Below.mono (by assumption) ?_)) | go_size)))
  have HS : ∀ w', Below ((wd.alloc (.cells #[.int .i64 (mgX a b c d), .int .i64 (mgY a b c d)] 23)).drew).heap.size ((wd.alloc (.cells #[.int .i64 (mgX a b c d), .int .i64 (mgY a b c d)] 23)).drew) w' → (Below ((wd.alloc (.cells #[.int .i64 (mgX a b c d), .int .i64 (mgY a b c d)] 23)).drew).heap.size ((wd.alloc (.cells #[.int .i64 (mgX a b c d), .int .i64 (mgY a b c d)] 23)).drew) w' ∧ w'.cell? ⟨w.heap.size, 0, none⟩ = some (.int .i64 a) ∧ w'.cell? ⟨w.heap.size, 1, none⟩ = some (.int .i64 b) ∧ w'.cell? ⟨w.heap.size + 1, 0, none⟩ = some (.int .i64 c) ∧ w'.cell? ⟨w.heap.size + 1, 1, none⟩ = some (.int .i64 d) ∧ w'.cell? ⟨wa.heap.size, 0, none⟩ = some (.int .i64 (isX a b c d)) ∧ w'.cell? ⟨wa.heap.size, 1, none⟩ = some (.int .i64 (isY a b c d)) ∧ w'.cell? ⟨wb.heap.size, 0, none⟩ = some (.int .i64 (isX a b c d)) ∧ w'.cell? ⟨wb.heap.size, 1, none⟩ = some (.int .i64 (isY a b c d)) ∧ w'.cell? ⟨wc.heap.size, 0, none⟩ = some (.int .i64 (mgX a b c d)) ∧ w'.cell? ⟨wc.heap.size, 1, none⟩ = some (.int .i64 (mgY a b c d)) ∧ w'.cell? ⟨wd.heap.size, 0, none⟩ = some (.int .i64 (mgX a b c d)) ∧ w'.cell? ⟨wd.heap.size, 1, none⟩ = some (.int .i64 (mgY a b c d)) ∧ Env w' ∧ Below w.heap.size w w') := fun w' hb => ⟨hb, (hb.cell (p := ⟨w.heap.size, 0, none⟩) lP0).trans qP0, (hb.cell (p := ⟨w.heap.size, 1, none⟩) lP1).trans qP1, (hb.cell (p := ⟨w.heap.size + 1, 0, none⟩) lQ0).trans qQ0, (hb.cell (p := ⟨w.heap.size + 1, 1, none⟩) lQ1).trans qQ1, (hb.cell (p := ⟨wa.heap.size, 0, none⟩) lwa0).trans qwa0, (hb.cell (p := ⟨wa.heap.size, 1, none⟩) lwa1).trans qwa1, (hb.cell (p := ⟨wb.heap.size, 0, none⟩) lwb0).trans qwb0, (hb.cell (p := ⟨wb.heap.size, 1, none⟩) lwb1).trans qwb1, (hb.cell (p := ⟨wc.heap.size, 0, none⟩) lwc0).trans qwc0, (hb.cell (p := ⟨wc.heap.size, 1, none⟩) lwc1).trans qwc1, (hb.cell (p := ⟨wd.heap.size, 0, none⟩) lwd0).trans qwd0, (hb.cell (p := ⟨wd.heap.size, 1, none⟩) lwd1).trans qwd1, henv2.step hb, hbel.trans (hb.mono hbel.size)⟩
  have HS := Lib.hid HS
  clear qP0 lP0 kwdP0 qP1 lP1 kwdP1 qQ0 lQ0 kwdQ0 qQ1 lQ1 kwdQ1 qwa0 lwa0 kwdwa0 qwa1 lwa1 kwdwa1 qwb0 lwb0 kwdwb0 qwb1 lwb1 kwdwb1 qwc0 lwc0 kwdwc0 qwc1 lwc1 kwdwc1 qwd0 lwd0 qwd1 lwd1
  go_region_held3 (fun w' => Below ((wd.alloc (.cells #[.int .i64 (mgX a b c d), .int .i64 (mgY a b c d)] 23)).drew).heap.size ((wd.alloc (.cells #[.int .i64 (mgX a b c d), .int .i64 (mgY a b c d)] 23)).drew) w' ∧ w'.cell? ⟨w.heap.size, 0, none⟩ = some (.int .i64 a) ∧ w'.cell? ⟨w.heap.size, 1, none⟩ = some (.int .i64 b) ∧ w'.cell? ⟨w.heap.size + 1, 0, none⟩ = some (.int .i64 c) ∧ w'.cell? ⟨w.heap.size + 1, 1, none⟩ = some (.int .i64 d) ∧ w'.cell? ⟨wa.heap.size, 0, none⟩ = some (.int .i64 (isX a b c d)) ∧ w'.cell? ⟨wa.heap.size, 1, none⟩ = some (.int .i64 (isY a b c d)) ∧ w'.cell? ⟨wb.heap.size, 0, none⟩ = some (.int .i64 (isX a b c d)) ∧ w'.cell? ⟨wb.heap.size, 1, none⟩ = some (.int .i64 (isY a b c d)) ∧ w'.cell? ⟨wc.heap.size, 0, none⟩ = some (.int .i64 (mgX a b c d)) ∧ w'.cell? ⟨wc.heap.size, 1, none⟩ = some (.int .i64 (mgY a b c d)) ∧ w'.cell? ⟨wd.heap.size, 0, none⟩ = some (.int .i64 (mgX a b c d)) ∧ w'.cell? ⟨wd.heap.size, 1, none⟩ = some (.int .i64 (mgY a b c d)) ∧ Env w' ∧ Below w.heap.size w w')
    (first | (exact HS.out _ (Below.refl _ _)) | (go_split_ands; exact HS.out _ (Below.trans (by assumption) (Below.mono hb (Below.size (by assumption))))))
    (first
      | (go_at_call 25; refine (sub_any _ _ _ _ _).mono ?_; rintro e w1 ⟨v1, rfl, hpu, hb⟩)
      | (go_at_call 26; refine (rsub_any _ _ _ _ _).mono ?_; rintro e w1 ⟨v2, rfl, hpv, hb⟩)
      | (go_at_call 24; refine (same_b _ _ _ _ _ (PerSl.more (PerSl.below hpu hb) hb.size) hpv).mono ?_; rintro e w1 ⟨rfl, hb⟩)
      | (go_at_call 19; go_split_ands; refine (awake_any _ (by assumption)).mono ?_; rintro e w1 ⟨rfl, hb⟩))
  go_wp2
  go_ret
  go_split_ands
  exact ⟨rfl, by assumption⟩
end Go.Proofs.YtclopijbmjocmaaDoor
