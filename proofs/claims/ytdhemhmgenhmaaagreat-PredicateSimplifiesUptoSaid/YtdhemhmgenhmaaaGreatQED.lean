import Derived.Test.YtdhemhmgenhmaaaGreatQEA
import Derived.Test.YtdhemhmgenhmaaaGreatME
import Derived.WalkKit
import Derived.WalkSpells
import Derived.WalkLawsBesides
import Derived.Deep.QuietTactic
import Derived.BigQuiet
import Derived.Handy
import Derived.Lib.Hide
set_option maxRecDepth 100000
set_option maxHeartbeats 25600000
set_option linter.unusedVariables false
set_option linter.unusedSimpArgs false
/-
  The value of an expression, by the program, operator by operator. Conditions: lengths, values of rows are read.
-/
namespace Go.Proofs.YtdhemhmgenhmaaaGreat
open Go.RowKit
theorem ev_13 : EvC 13 fun _ _ _ _ _ _ l => ariP 13 (getP l 0) (getP l 1) := by
 intro n k1 k2 s nm rv row l A c w L2 hR hl hV hwf hA
 dsimp only
 have HWF := Lib.hid (fun W => by have h := pWf_any 13 n k1 k2 s nm A l.length c W; rw [hwf] at h; exact h)
 have HRV := Lib.hid hR
 have HAA := Lib.hid hA
 obtain ⟨Ar, cr, rfl, _, _⟩ := hR
 clear hA
 have G0 := evG l 0 0 rfl (by have h := wf_lo hwf; have h2 : opLo 13 = 2 := rfl; omega)
 have hv0 := vld_get l hV 0
 generalize getP l 0 = p0 at *
 obtain ⟨a0, b0, c0⟩ := p0
 have G1 := evG l 1 1 rfl (by have h := wf_lo hwf; have h2 : opLo 13 = 2 := rfl; omega)
 have hv1 := vld_get l hV 1
 generalize getP l 1 = p1 at *
 obtain ⟨a1, b1, c1⟩ := p1
 have HF := fun W => pAri_any 13 a0 b0 a1 b1 c0 c1 W (fun h => vld_num hv0 h) (fun h => vld_num hv1 h) (by decide)
 generalize ariP 13 (a0, b0, c0) (a1, b1, c1) = r at HF ⊢
 obtain ⟨r1, r2, r3⟩ := r
 unfold valV at *
 dsimp only at *
 clear hwf hV hv0 hv1
 obtain ⟨HE0, HR0, HZ0, HB0⟩ := bx3 w 26 #[.int .i64 13, .int .i64 n, .int .i64 k1, .int .i64 k2, .string s, .string nm, .slice A l.length c] 27 #[.slice Ar row.length cr] 23 #[.int .i64 0, .int .i64 0, .string ⟨#[]⟩]
 go_enter Tryz.func15, Tryz.ntmps15
 go_wp2_with fail
 with_reducible refine (HWF.out _).mono ?_
 rintro e w1 ⟨rfl, hb1⟩
 obtain ⟨HE1, z1, b1, x0, x1, x2, x3, x4, x5, x6, xr⟩ := evIn HE0 HR0 HZ0 HB0 hb1
 have a1 := Below.refl w1.heap.size w1
 have HA := Lib.hid (HAA.out w1 w.heap.size (w.heap.size + 1) b1 x6 xr)
 have HR1 := Lib.hid (HRV.out.step b1 (Nat.le_refl _))
 clear hb1 HE0 HR0 HZ0 HB0 HWF
 go_wp2_with fail
 have HS := Lib.hid (show ∀ w', Below (w.heap.size + 1 + 1) w1.drew w' → (Below (w.heap.size + 1 + 1) w1.drew w' ∧ w'.cell? ⟨w.heap.size, 0, none⟩ = some (.int .i64 13)) from evS x0)
 obtain ⟨hz3, HD, zd⟩ := evD z1
 clear x0 x1 x2 x3 x4 x5 x6 xr HE1 HR1
 go_region_held3 (fun w' => Below (w.heap.size + 1 + 1) w1.drew w' ∧ w'.cell? ⟨w.heap.size, 0, none⟩ = some (.int .i64 13))
  (first | (exact HS.out _ (Below.refl _ _)) | (exact HS.out _ hb) | (exact HS.out _ (((hb.sc _ 0 _).sc _ 1 _).sc _ 2 _)))
  ((first
   | (go_at_call 49; with_reducible refine (G0 w1 _ _ _ HA.out HD.out).mono ?_; rintro e v1 ⟨rfl, hq1⟩; have p1 := evT HD.out hq1; have d1 := evT (Below.refl w1.drew.heap.size w1.drew) hq1; have y1 := zd.below hq1 zd.lt; have hb := d1.mono hz3)
   | (go_at_call 49; with_reducible refine (G1 w1 _ _ _ HA.out p1).mono ?_; rintro e v2 ⟨rfl, hq2⟩; have p2 := evT p1 hq2; have d2 := evT d1 hq2; have y2 := y1.below hq2 y1.lt; have hb := d2.mono hz3)
   | (go_at_call 54; with_reducible refine (HF _).mono ?_; rintro e v3 ⟨rfl, hq3⟩; have p3 := evT p2 hq3; have d3 := evT d2 hq3; have y3 := y2.below hq3 y2.lt; have hb := d3.mono hz3; have g0 := y3.cell 0; have g1 := y3.cell 1; have g2 := y3.cell 2; have j0 := y3.free 0; have j1 := y3.free 1; have j2 := y3.free 2)))
 have bk := evK b1 (d3)
 go_wp2
 (try simp only [Exit.inBlock, Exit.then]); refine bodyPost_ret_by (results_cell_row1 (by rfl) _ _ (w.heap.size + 1 + 1) _ (by rfl) (load_val (((y3.store 0 _).store 1 _).store 2 _))) ?_ ?_; (focus rfl); refine ⟨rfl, ?_⟩
 (repeat' first | (with_reducible first | exact Below.refl _ _ | assumption | refine Below.alloc ?_ ?_ _ | refine Below.drew ?_ | refine Below.setCell ?_ ?_ _ | refine Below.trans ?_ (Below.mono (by assumption) ?_)) | go_size)
theorem ev_14 : EvC 14 fun _ _ _ _ _ _ l => ariP 14 (getP l 0) (getP l 1) := by
 intro n k1 k2 s nm rv row l A c w L2 hR hl hV hwf hA
 dsimp only
 have HWF := Lib.hid (fun W => by have h := pWf_any 14 n k1 k2 s nm A l.length c W; rw [hwf] at h; exact h)
 have HRV := Lib.hid hR
 have HAA := Lib.hid hA
 obtain ⟨Ar, cr, rfl, _, _⟩ := hR
 clear hA
 have G0 := evG l 0 0 rfl (by have h := wf_lo hwf; have h2 : opLo 14 = 2 := rfl; omega)
 have hv0 := vld_get l hV 0
 generalize getP l 0 = p0 at *
 obtain ⟨a0, b0, c0⟩ := p0
 have G1 := evG l 1 1 rfl (by have h := wf_lo hwf; have h2 : opLo 14 = 2 := rfl; omega)
 have hv1 := vld_get l hV 1
 generalize getP l 1 = p1 at *
 obtain ⟨a1, b1, c1⟩ := p1
 have HF := fun W => pAri_any 14 a0 b0 a1 b1 c0 c1 W (fun h => vld_num hv0 h) (fun h => vld_num hv1 h) (by decide)
 generalize ariP 14 (a0, b0, c0) (a1, b1, c1) = r at HF ⊢
 obtain ⟨r1, r2, r3⟩ := r
 unfold valV at *
 dsimp only at *
 clear hwf hV hv0 hv1
 obtain ⟨HE0, HR0, HZ0, HB0⟩ := bx3 w 26 #[.int .i64 14, .int .i64 n, .int .i64 k1, .int .i64 k2, .string s, .string nm, .slice A l.length c] 27 #[.slice Ar row.length cr] 23 #[.int .i64 0, .int .i64 0, .string ⟨#[]⟩]
 go_enter Tryz.func15, Tryz.ntmps15
 go_wp2_with fail
 with_reducible refine (HWF.out _).mono ?_
 rintro e w1 ⟨rfl, hb1⟩
 obtain ⟨HE1, z1, b1, x0, x1, x2, x3, x4, x5, x6, xr⟩ := evIn HE0 HR0 HZ0 HB0 hb1
 have a1 := Below.refl w1.heap.size w1
 have HA := Lib.hid (HAA.out w1 w.heap.size (w.heap.size + 1) b1 x6 xr)
 have HR1 := Lib.hid (HRV.out.step b1 (Nat.le_refl _))
 clear hb1 HE0 HR0 HZ0 HB0 HWF
 go_wp2_with fail
 have HS := Lib.hid (show ∀ w', Below (w.heap.size + 1 + 1) w1.drew w' → (Below (w.heap.size + 1 + 1) w1.drew w' ∧ w'.cell? ⟨w.heap.size, 0, none⟩ = some (.int .i64 14)) from evS x0)
 obtain ⟨hz3, HD, zd⟩ := evD z1
 clear x0 x1 x2 x3 x4 x5 x6 xr HE1 HR1
 go_region_held3 (fun w' => Below (w.heap.size + 1 + 1) w1.drew w' ∧ w'.cell? ⟨w.heap.size, 0, none⟩ = some (.int .i64 14))
  (first | (exact HS.out _ (Below.refl _ _)) | (exact HS.out _ hb) | (exact HS.out _ (((hb.sc _ 0 _).sc _ 1 _).sc _ 2 _)))
  ((first
   | (go_at_call 49; with_reducible refine (G0 w1 _ _ _ HA.out HD.out).mono ?_; rintro e v1 ⟨rfl, hq1⟩; have p1 := evT HD.out hq1; have d1 := evT (Below.refl w1.drew.heap.size w1.drew) hq1; have y1 := zd.below hq1 zd.lt; have hb := d1.mono hz3)
   | (go_at_call 49; with_reducible refine (G1 w1 _ _ _ HA.out p1).mono ?_; rintro e v2 ⟨rfl, hq2⟩; have p2 := evT p1 hq2; have d2 := evT d1 hq2; have y2 := y1.below hq2 y1.lt; have hb := d2.mono hz3)
   | (go_at_call 54; with_reducible refine (HF _).mono ?_; rintro e v3 ⟨rfl, hq3⟩; have p3 := evT p2 hq3; have d3 := evT d2 hq3; have y3 := y2.below hq3 y2.lt; have hb := d3.mono hz3; have g0 := y3.cell 0; have g1 := y3.cell 1; have g2 := y3.cell 2; have j0 := y3.free 0; have j1 := y3.free 1; have j2 := y3.free 2)))
 have bk := evK b1 (d3)
 go_wp2
 (try simp only [Exit.inBlock, Exit.then]); refine bodyPost_ret_by (results_cell_row1 (by rfl) _ _ (w.heap.size + 1 + 1) _ (by rfl) (load_val (((y3.store 0 _).store 1 _).store 2 _))) ?_ ?_; (focus rfl); refine ⟨rfl, ?_⟩
 (repeat' first | (with_reducible first | exact Below.refl _ _ | assumption | refine Below.alloc ?_ ?_ _ | refine Below.drew ?_ | refine Below.setCell ?_ ?_ _ | refine Below.trans ?_ (Below.mono (by assumption) ?_)) | go_size)
theorem ev_15 : EvC 15 fun _ _ _ _ _ _ l => ariP 15 (getP l 0) (getP l 1) := by
 intro n k1 k2 s nm rv row l A c w L2 hR hl hV hwf hA
 dsimp only
 have HWF := Lib.hid (fun W => by have h := pWf_any 15 n k1 k2 s nm A l.length c W; rw [hwf] at h; exact h)
 have HRV := Lib.hid hR
 have HAA := Lib.hid hA
 obtain ⟨Ar, cr, rfl, _, _⟩ := hR
 clear hA
 have G0 := evG l 0 0 rfl (by have h := wf_lo hwf; have h2 : opLo 15 = 2 := rfl; omega)
 have hv0 := vld_get l hV 0
 generalize getP l 0 = p0 at *
 obtain ⟨a0, b0, c0⟩ := p0
 have G1 := evG l 1 1 rfl (by have h := wf_lo hwf; have h2 : opLo 15 = 2 := rfl; omega)
 have hv1 := vld_get l hV 1
 generalize getP l 1 = p1 at *
 obtain ⟨a1, b1, c1⟩ := p1
 have HF := fun W => pAri_any 15 a0 b0 a1 b1 c0 c1 W (fun h => vld_num hv0 h) (fun h => vld_num hv1 h) (by decide)
 generalize ariP 15 (a0, b0, c0) (a1, b1, c1) = r at HF ⊢
 obtain ⟨r1, r2, r3⟩ := r
 unfold valV at *
 dsimp only at *
 clear hwf hV hv0 hv1
 obtain ⟨HE0, HR0, HZ0, HB0⟩ := bx3 w 26 #[.int .i64 15, .int .i64 n, .int .i64 k1, .int .i64 k2, .string s, .string nm, .slice A l.length c] 27 #[.slice Ar row.length cr] 23 #[.int .i64 0, .int .i64 0, .string ⟨#[]⟩]
 go_enter Tryz.func15, Tryz.ntmps15
 go_wp2_with fail
 with_reducible refine (HWF.out _).mono ?_
 rintro e w1 ⟨rfl, hb1⟩
 obtain ⟨HE1, z1, b1, x0, x1, x2, x3, x4, x5, x6, xr⟩ := evIn HE0 HR0 HZ0 HB0 hb1
 have a1 := Below.refl w1.heap.size w1
 have HA := Lib.hid (HAA.out w1 w.heap.size (w.heap.size + 1) b1 x6 xr)
 have HR1 := Lib.hid (HRV.out.step b1 (Nat.le_refl _))
 clear hb1 HE0 HR0 HZ0 HB0 HWF
 go_wp2_with fail
 have HS := Lib.hid (show ∀ w', Below (w.heap.size + 1 + 1) w1.drew w' → (Below (w.heap.size + 1 + 1) w1.drew w' ∧ w'.cell? ⟨w.heap.size, 0, none⟩ = some (.int .i64 15)) from evS x0)
 obtain ⟨hz3, HD, zd⟩ := evD z1
 clear x0 x1 x2 x3 x4 x5 x6 xr HE1 HR1
 go_region_held3 (fun w' => Below (w.heap.size + 1 + 1) w1.drew w' ∧ w'.cell? ⟨w.heap.size, 0, none⟩ = some (.int .i64 15))
  (first | (exact HS.out _ (Below.refl _ _)) | (exact HS.out _ hb) | (exact HS.out _ (((hb.sc _ 0 _).sc _ 1 _).sc _ 2 _)))
  ((first
   | (go_at_call 49; with_reducible refine (G0 w1 _ _ _ HA.out HD.out).mono ?_; rintro e v1 ⟨rfl, hq1⟩; have p1 := evT HD.out hq1; have d1 := evT (Below.refl w1.drew.heap.size w1.drew) hq1; have y1 := zd.below hq1 zd.lt; have hb := d1.mono hz3)
   | (go_at_call 49; with_reducible refine (G1 w1 _ _ _ HA.out p1).mono ?_; rintro e v2 ⟨rfl, hq2⟩; have p2 := evT p1 hq2; have d2 := evT d1 hq2; have y2 := y1.below hq2 y1.lt; have hb := d2.mono hz3)
   | (go_at_call 54; with_reducible refine (HF _).mono ?_; rintro e v3 ⟨rfl, hq3⟩; have p3 := evT p2 hq3; have d3 := evT d2 hq3; have y3 := y2.below hq3 y2.lt; have hb := d3.mono hz3; have g0 := y3.cell 0; have g1 := y3.cell 1; have g2 := y3.cell 2; have j0 := y3.free 0; have j1 := y3.free 1; have j2 := y3.free 2)))
 have bk := evK b1 (d3)
 go_wp2
 (try simp only [Exit.inBlock, Exit.then]); refine bodyPost_ret_by (results_cell_row1 (by rfl) _ _ (w.heap.size + 1 + 1) _ (by rfl) (load_val (((y3.store 0 _).store 1 _).store 2 _))) ?_ ?_; (focus rfl); refine ⟨rfl, ?_⟩
 (repeat' first | (with_reducible first | exact Below.refl _ _ | assumption | refine Below.alloc ?_ ?_ _ | refine Below.drew ?_ | refine Below.setCell ?_ ?_ _ | refine Below.trans ?_ (Below.mono (by assumption) ?_)) | go_size)
theorem ev_16 : EvC 16 fun _ _ _ _ _ _ l => ariP 16 (getP l 0) (getP l 1) := by
 intro n k1 k2 s nm rv row l A c w L2 hR hl hV hwf hA
 dsimp only
 have HWF := Lib.hid (fun W => by have h := pWf_any 16 n k1 k2 s nm A l.length c W; rw [hwf] at h; exact h)
 have HRV := Lib.hid hR
 have HAA := Lib.hid hA
 obtain ⟨Ar, cr, rfl, _, _⟩ := hR
 clear hA
 have G0 := evG l 0 0 rfl (by have h := wf_lo hwf; have h2 : opLo 16 = 2 := rfl; omega)
 have hv0 := vld_get l hV 0
 generalize getP l 0 = p0 at *
 obtain ⟨a0, b0, c0⟩ := p0
 have G1 := evG l 1 1 rfl (by have h := wf_lo hwf; have h2 : opLo 16 = 2 := rfl; omega)
 have hv1 := vld_get l hV 1
 generalize getP l 1 = p1 at *
 obtain ⟨a1, b1, c1⟩ := p1
 have HF := fun W => pAri_any 16 a0 b0 a1 b1 c0 c1 W (fun h => vld_num hv0 h) (fun h => vld_num hv1 h) (by decide)
 generalize ariP 16 (a0, b0, c0) (a1, b1, c1) = r at HF ⊢
 obtain ⟨r1, r2, r3⟩ := r
 unfold valV at *
 dsimp only at *
 clear hwf hV hv0 hv1
 obtain ⟨HE0, HR0, HZ0, HB0⟩ := bx3 w 26 #[.int .i64 16, .int .i64 n, .int .i64 k1, .int .i64 k2, .string s, .string nm, .slice A l.length c] 27 #[.slice Ar row.length cr] 23 #[.int .i64 0, .int .i64 0, .string ⟨#[]⟩]
 go_enter Tryz.func15, Tryz.ntmps15
 go_wp2_with fail
 with_reducible refine (HWF.out _).mono ?_
 rintro e w1 ⟨rfl, hb1⟩
 obtain ⟨HE1, z1, b1, x0, x1, x2, x3, x4, x5, x6, xr⟩ := evIn HE0 HR0 HZ0 HB0 hb1
 have a1 := Below.refl w1.heap.size w1
 have HA := Lib.hid (HAA.out w1 w.heap.size (w.heap.size + 1) b1 x6 xr)
 have HR1 := Lib.hid (HRV.out.step b1 (Nat.le_refl _))
 clear hb1 HE0 HR0 HZ0 HB0 HWF
 go_wp2_with fail
 have HS := Lib.hid (show ∀ w', Below (w.heap.size + 1 + 1) w1.drew w' → (Below (w.heap.size + 1 + 1) w1.drew w' ∧ w'.cell? ⟨w.heap.size, 0, none⟩ = some (.int .i64 16)) from evS x0)
 obtain ⟨hz3, HD, zd⟩ := evD z1
 clear x0 x1 x2 x3 x4 x5 x6 xr HE1 HR1
 go_region_held3 (fun w' => Below (w.heap.size + 1 + 1) w1.drew w' ∧ w'.cell? ⟨w.heap.size, 0, none⟩ = some (.int .i64 16))
  (first | (exact HS.out _ (Below.refl _ _)) | (exact HS.out _ hb) | (exact HS.out _ (((hb.sc _ 0 _).sc _ 1 _).sc _ 2 _)))
  ((first
   | (go_at_call 49; with_reducible refine (G0 w1 _ _ _ HA.out HD.out).mono ?_; rintro e v1 ⟨rfl, hq1⟩; have p1 := evT HD.out hq1; have d1 := evT (Below.refl w1.drew.heap.size w1.drew) hq1; have y1 := zd.below hq1 zd.lt; have hb := d1.mono hz3)
   | (go_at_call 49; with_reducible refine (G1 w1 _ _ _ HA.out p1).mono ?_; rintro e v2 ⟨rfl, hq2⟩; have p2 := evT p1 hq2; have d2 := evT d1 hq2; have y2 := y1.below hq2 y1.lt; have hb := d2.mono hz3)
   | (go_at_call 54; with_reducible refine (HF _).mono ?_; rintro e v3 ⟨rfl, hq3⟩; have p3 := evT p2 hq3; have d3 := evT d2 hq3; have y3 := y2.below hq3 y2.lt; have hb := d3.mono hz3; have g0 := y3.cell 0; have g1 := y3.cell 1; have g2 := y3.cell 2; have j0 := y3.free 0; have j1 := y3.free 1; have j2 := y3.free 2)))
 have bk := evK b1 (d3)
 go_wp2
 (try simp only [Exit.inBlock, Exit.then]); refine bodyPost_ret_by (results_cell_row1 (by rfl) _ _ (w.heap.size + 1 + 1) _ (by rfl) (load_val (((y3.store 0 _).store 1 _).store 2 _))) ?_ ?_; (focus rfl); refine ⟨rfl, ?_⟩
 (repeat' first | (with_reducible first | exact Below.refl _ _ | assumption | refine Below.alloc ?_ ?_ _ | refine Below.drew ?_ | refine Below.setCell ?_ ?_ _ | refine Below.trans ?_ (Below.mono (by assumption) ?_)) | go_size)
theorem ev_17 : EvC 17 fun _ _ _ _ _ _ l => ariP 17 (getP l 0) (getP l 1) := by
 intro n k1 k2 s nm rv row l A c w L2 hR hl hV hwf hA
 dsimp only
 have HWF := Lib.hid (fun W => by have h := pWf_any 17 n k1 k2 s nm A l.length c W; rw [hwf] at h; exact h)
 have HRV := Lib.hid hR
 have HAA := Lib.hid hA
 obtain ⟨Ar, cr, rfl, _, _⟩ := hR
 clear hA
 have G0 := evG l 0 0 rfl (by have h := wf_lo hwf; have h2 : opLo 17 = 2 := rfl; omega)
 have hv0 := vld_get l hV 0
 generalize getP l 0 = p0 at *
 obtain ⟨a0, b0, c0⟩ := p0
 have G1 := evG l 1 1 rfl (by have h := wf_lo hwf; have h2 : opLo 17 = 2 := rfl; omega)
 have hv1 := vld_get l hV 1
 generalize getP l 1 = p1 at *
 obtain ⟨a1, b1, c1⟩ := p1
 have HF := fun W => pAri_any 17 a0 b0 a1 b1 c0 c1 W (fun h => vld_num hv0 h) (fun h => vld_num hv1 h) (by decide)
 generalize ariP 17 (a0, b0, c0) (a1, b1, c1) = r at HF ⊢
 obtain ⟨r1, r2, r3⟩ := r
 unfold valV at *
 dsimp only at *
 clear hwf hV hv0 hv1
 obtain ⟨HE0, HR0, HZ0, HB0⟩ := bx3 w 26 #[.int .i64 17, .int .i64 n, .int .i64 k1, .int .i64 k2, .string s, .string nm, .slice A l.length c] 27 #[.slice Ar row.length cr] 23 #[.int .i64 0, .int .i64 0, .string ⟨#[]⟩]
 go_enter Tryz.func15, Tryz.ntmps15
 go_wp2_with fail
 with_reducible refine (HWF.out _).mono ?_
 rintro e w1 ⟨rfl, hb1⟩
 obtain ⟨HE1, z1, b1, x0, x1, x2, x3, x4, x5, x6, xr⟩ := evIn HE0 HR0 HZ0 HB0 hb1
 have a1 := Below.refl w1.heap.size w1
 have HA := Lib.hid (HAA.out w1 w.heap.size (w.heap.size + 1) b1 x6 xr)
 have HR1 := Lib.hid (HRV.out.step b1 (Nat.le_refl _))
 clear hb1 HE0 HR0 HZ0 HB0 HWF
 go_wp2_with fail
 have HS := Lib.hid (show ∀ w', Below (w.heap.size + 1 + 1) w1.drew w' → (Below (w.heap.size + 1 + 1) w1.drew w' ∧ w'.cell? ⟨w.heap.size, 0, none⟩ = some (.int .i64 17)) from evS x0)
 obtain ⟨hz3, HD, zd⟩ := evD z1
 clear x0 x1 x2 x3 x4 x5 x6 xr HE1 HR1
 go_region_held3 (fun w' => Below (w.heap.size + 1 + 1) w1.drew w' ∧ w'.cell? ⟨w.heap.size, 0, none⟩ = some (.int .i64 17))
  (first | (exact HS.out _ (Below.refl _ _)) | (exact HS.out _ hb) | (exact HS.out _ (((hb.sc _ 0 _).sc _ 1 _).sc _ 2 _)))
  ((first
   | (go_at_call 49; with_reducible refine (G0 w1 _ _ _ HA.out HD.out).mono ?_; rintro e v1 ⟨rfl, hq1⟩; have p1 := evT HD.out hq1; have d1 := evT (Below.refl w1.drew.heap.size w1.drew) hq1; have y1 := zd.below hq1 zd.lt; have hb := d1.mono hz3)
   | (go_at_call 49; with_reducible refine (G1 w1 _ _ _ HA.out p1).mono ?_; rintro e v2 ⟨rfl, hq2⟩; have p2 := evT p1 hq2; have d2 := evT d1 hq2; have y2 := y1.below hq2 y1.lt; have hb := d2.mono hz3)
   | (go_at_call 54; with_reducible refine (HF _).mono ?_; rintro e v3 ⟨rfl, hq3⟩; have p3 := evT p2 hq3; have d3 := evT d2 hq3; have y3 := y2.below hq3 y2.lt; have hb := d3.mono hz3; have g0 := y3.cell 0; have g1 := y3.cell 1; have g2 := y3.cell 2; have j0 := y3.free 0; have j1 := y3.free 1; have j2 := y3.free 2)))
 have bk := evK b1 (d3)
 go_wp2
 (try simp only [Exit.inBlock, Exit.then]); refine bodyPost_ret_by (results_cell_row1 (by rfl) _ _ (w.heap.size + 1 + 1) _ (by rfl) (load_val (((y3.store 0 _).store 1 _).store 2 _))) ?_ ?_; (focus rfl); refine ⟨rfl, ?_⟩
 (repeat' first | (with_reducible first | exact Below.refl _ _ | assumption | refine Below.alloc ?_ ?_ _ | refine Below.drew ?_ | refine Below.setCell ?_ ?_ _ | refine Below.trans ?_ (Below.mono (by assumption) ?_)) | go_size)
end Go.Proofs.YtdhemhmgenhmaaaGreat
