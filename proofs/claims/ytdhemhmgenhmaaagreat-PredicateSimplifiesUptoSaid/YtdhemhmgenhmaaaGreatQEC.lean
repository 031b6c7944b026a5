import Derived.Test.YtdhemhmgenhmaaaGreatQEA
import Derived.Test.YtdhemhmgenhmaaaGreatME
import Derived.WalkKit
import Derived.WalkSpells
import Derived.WalkLawsBesides
import Derived.Deep.QuietTactic
import Derived.BigQuiet
import Derived.Handy
import Derived.Lib.Hide
set_option maxRecDepth 100000
set_option maxHeartbeats 25600000
set_option linter.unusedVariables false
set_option linter.unusedSimpArgs false
/-
  The value of an expression, by the program, operator by operator. Conditions: lengths, values of rows are read.
-/
namespace Go.Proofs.YtdhemhmgenhmaaaGreat
open Go.RowKit
theorem ev_7 : EvC 7 fun _ _ _ _ _ _ l => ofP (cmqP 7 (getP l 0) (getP l 1)) := by
 intro n k1 k2 s nm rv row l A c w L2 hR hl hV hwf hA
 dsimp only
 have HWF := Lib.hid (fun W => by have h := pWf_any 7 n k1 k2 s nm A l.length c W; rw [hwf] at h; exact h)
 have HRV := Lib.hid hR
 have HAA := Lib.hid hA
 obtain ⟨Ar, cr, rfl, _, _⟩ := hR
 clear hA
 have G0 := evG l 0 0 rfl (by have h := wf_lo hwf; have h2 : opLo 7 = 2 := rfl; omega)
 have hv0 := vld_get l hV 0
 generalize getP l 0 = p0 at *
 obtain ⟨a0, b0, c0⟩ := p0
 have G1 := evG l 1 1 rfl (by have h := wf_lo hwf; have h2 : opLo 7 = 2 := rfl; omega)
 have hv1 := vld_get l hV 1
 generalize getP l 1 = p1 at *
 obtain ⟨a1, b1, c1⟩ := p1
 have HC := fun W => pCmq_any 7 a0 b0 a1 b1 c0 c1 W (by decide)
 generalize cmqP 7 (a0, b0, c0) (a1, b1, c1) = t at *
 have HF := fun W => eOf t W
 generalize ofP t = r at HF ⊢
 obtain ⟨r1, r2, r3⟩ := r
 unfold valV at *
 dsimp only at *
 clear hwf hV hv0 hv1
 obtain ⟨HE0, HR0, HZ0, HB0⟩ := bx3 w 26 #[.int .i64 7, .int .i64 n, .int .i64 k1, .int .i64 k2, .string s, .string nm, .slice A l.length c] 27 #[.slice Ar row.length cr] 23 #[.int .i64 0, .int .i64 0, .string ⟨#[]⟩]
 go_enter Tryz.func15, Tryz.ntmps15
 go_wp2_with fail
 with_reducible refine (HWF.out _).mono ?_
 rintro e w1 ⟨rfl, hb1⟩
 obtain ⟨HE1, z1, b1, x0, x1, x2, x3, x4, x5, x6, xr⟩ := evIn HE0 HR0 HZ0 HB0 hb1
 have a1 := Below.refl w1.heap.size w1
 have HA := Lib.hid (HAA.out w1 w.heap.size (w.heap.size + 1) b1 x6 xr)
 have HR1 := Lib.hid (HRV.out.step b1 (Nat.le_refl _))
 clear hb1 HE0 HR0 HZ0 HB0 HWF
 go_wp2_with fail
 have HS := Lib.hid (show ∀ w', Below (w.heap.size + 1 + 1) w1.drew w' → (Below (w.heap.size + 1 + 1) w1.drew w' ∧ w'.cell? ⟨w.heap.size, 0, none⟩ = some (.int .i64 7)) from evS x0)
 obtain ⟨hz3, HD, zd⟩ := evD z1
 clear x0 x1 x2 x3 x4 x5 x6 xr HE1 HR1
 go_region_held3 (fun w' => Below (w.heap.size + 1 + 1) w1.drew w' ∧ w'.cell? ⟨w.heap.size, 0, none⟩ = some (.int .i64 7))
  (first | (exact HS.out _ (Below.refl _ _)) | (exact HS.out _ hb) | (exact HS.out _ (((hb.sc _ 0 _).sc _ 1 _).sc _ 2 _)))
  ((first
   | (go_at_call 49; with_reducible refine (G0 w1 _ _ _ HA.out HD.out).mono ?_; rintro e v1 ⟨rfl, hq1⟩; have p1 := evT HD.out hq1; have d1 := evT (Below.refl w1.drew.heap.size w1.drew) hq1; have y1 := zd.below hq1 zd.lt; have hb := d1.mono hz3)
   | (go_at_call 49; with_reducible refine (G1 w1 _ _ _ HA.out p1).mono ?_; rintro e v2 ⟨rfl, hq2⟩; have p2 := evT p1 hq2; have d2 := evT d1 hq2; have y2 := y1.below hq2 y1.lt; have hb := d2.mono hz3)
   | (go_at_call 53; with_reducible refine (HC _).mono ?_; rintro e v3 ⟨rfl, hq3⟩; have p3 := evT p2 hq3; have d3 := evT d2 hq3; have y3 := y2.below hq3 y2.lt; have hb := d3.mono hz3)
   | (go_at_call 51; with_reducible refine (HF _).mono ?_; rintro e v4 ⟨rfl, hq4⟩; have p4 := evT p3 hq4; have d4 := evT d3 hq4; have y4 := y3.below hq4 y3.lt; have hb := d4.mono hz3; have g0 := y4.cell 0; have g1 := y4.cell 1; have g2 := y4.cell 2; have j0 := y4.free 0; have j1 := y4.free 1; have j2 := y4.free 2)))
 have bk := evK b1 (d4)
 go_wp2
 (try simp only [Exit.inBlock, Exit.then]); refine bodyPost_ret_by (results_cell_row1 (by rfl) _ _ (w.heap.size + 1 + 1) _ (by rfl) (load_val (((y4.store 0 _).store 1 _).store 2 _))) ?_ ?_; (focus rfl); refine ⟨rfl, ?_⟩
 (repeat' first | (with_reducible first | exact Below.refl _ _ | assumption | refine Below.alloc ?_ ?_ _ | refine Below.drew ?_ | refine Below.setCell ?_ ?_ _ | refine Below.trans ?_ (Below.mono (by assumption) ?_)) | go_size)
theorem ev_8 : EvC 8 fun _ _ _ _ _ _ l => ofP (cmqP 8 (getP l 0) (getP l 1)) := by
 intro n k1 k2 s nm rv row l A c w L2 hR hl hV hwf hA
 dsimp only
 have HWF := Lib.hid (fun W => by have h := pWf_any 8 n k1 k2 s nm A l.length c W; rw [hwf] at h; exact h)
 have HRV := Lib.hid hR
 have HAA := Lib.hid hA
 obtain ⟨Ar, cr, rfl, _, _⟩ := hR
 clear hA
 have G0 := evG l 0 0 rfl (by have h := wf_lo hwf; have h2 : opLo 8 = 2 := rfl; omega)
 have hv0 := vld_get l hV 0
 generalize getP l 0 = p0 at *
 obtain ⟨a0, b0, c0⟩ := p0
 have G1 := evG l 1 1 rfl (by have h := wf_lo hwf; have h2 : opLo 8 = 2 := rfl; omega)
 have hv1 := vld_get l hV 1
 generalize getP l 1 = p1 at *
 obtain ⟨a1, b1, c1⟩ := p1
 have HC := fun W => pCmq_any 8 a0 b0 a1 b1 c0 c1 W (by decide)
 generalize cmqP 8 (a0, b0, c0) (a1, b1, c1) = t at *
 have HF := fun W => eOf t W
 generalize ofP t = r at HF ⊢
 obtain ⟨r1, r2, r3⟩ := r
 unfold valV at *
 dsimp only at *
 clear hwf hV hv0 hv1
 obtain ⟨HE0, HR0, HZ0, HB0⟩ := bx3 w 26 #[.int .i64 8, .int .i64 n, .int .i64 k1, .int .i64 k2, .string s, .string nm, .slice A l.length c] 27 #[.slice Ar row.length cr] 23 #[.int .i64 0, .int .i64 0, .string ⟨#[]⟩]
 go_enter Tryz.func15, Tryz.ntmps15
 go_wp2_with fail
 with_reducible refine (HWF.out _).mono ?_
 rintro e w1 ⟨rfl, hb1⟩
 obtain ⟨HE1, z1, b1, x0, x1, x2, x3, x4, x5, x6, xr⟩ := evIn HE0 HR0 HZ0 HB0 hb1
 have a1 := Below.refl w1.heap.size w1
 have HA := Lib.hid (HAA.out w1 w.heap.size (w.heap.size + 1) b1 x6 xr)
 have HR1 := Lib.hid (HRV.out.step b1 (Nat.le_refl _))
 clear hb1 HE0 HR0 HZ0 HB0 HWF
 go_wp2_with fail
 have HS := Lib.hid (show ∀ w', Below (w.heap.size + 1 + 1) w1.drew w' → (Below (w.heap.size + 1 + 1) w1.drew w' ∧ w'.cell? ⟨w.heap.size, 0, none⟩ = some (.int .i64 8)) from evS x0)
 obtain ⟨hz3, HD, zd⟩ := evD z1
 clear x0 x1 x2 x3 x4 x5 x6 xr HE1 HR1
 go_region_held3 (fun w' => Below (w.heap.size + 1 + 1) w1.drew w' ∧ w'.cell? ⟨w.heap.size, 0, none⟩ = some (.int .i64 8))
  (first | (exact HS.out _ (Below.refl _ _)) | (exact HS.out _ hb) | (exact HS.out _ (((hb.sc _ 0 _).sc _ 1 _).sc _ 2 _)))
  ((first
   | (go_at_call 49; with_reducible refine (G0 w1 _ _ _ HA.out HD.out).mono ?_; rintro e v1 ⟨rfl, hq1⟩; have p1 := evT HD.out hq1; have d1 := evT (Below.refl w1.drew.heap.size w1.drew) hq1; have y1 := zd.below hq1 zd.lt; have hb := d1.mono hz3)
   | (go_at_call 49; with_reducible refine (G1 w1 _ _ _ HA.out p1).mono ?_; rintro e v2 ⟨rfl, hq2⟩; have p2 := evT p1 hq2; have d2 := evT d1 hq2; have y2 := y1.below hq2 y1.lt; have hb := d2.mono hz3)
   | (go_at_call 53; with_reducible refine (HC _).mono ?_; rintro e v3 ⟨rfl, hq3⟩; have p3 := evT p2 hq3; have d3 := evT d2 hq3; have y3 := y2.below hq3 y2.lt; have hb := d3.mono hz3)
   | (go_at_call 51; with_reducible refine (HF _).mono ?_; rintro e v4 ⟨rfl, hq4⟩; have p4 := evT p3 hq4; have d4 := evT d3 hq4; have y4 := y3.below hq4 y3.lt; have hb := d4.mono hz3; have g0 := y4.cell 0; have g1 := y4.cell 1; have g2 := y4.cell 2; have j0 := y4.free 0; have j1 := y4.free 1; have j2 := y4.free 2)))
 have bk := evK b1 (d4)
 go_wp2
 (try simp only [Exit.inBlock, Exit.then]); refine bodyPost_ret_by (results_cell_row1 (by rfl) _ _ (w.heap.size + 1 + 1) _ (by rfl) (load_val (((y4.store 0 _).store 1 _).store 2 _))) ?_ ?_; (focus rfl); refine ⟨rfl, ?_⟩
 (repeat' first | (with_reducible first | exact Below.refl _ _ | assumption | refine Below.alloc ?_ ?_ _ | refine Below.drew ?_ | refine Below.setCell ?_ ?_ _ | refine Below.trans ?_ (Below.mono (by assumption) ?_)) | go_size)
theorem ev_9 : EvC 9 fun _ _ _ _ _ _ l => ofP (cmqP 9 (getP l 0) (getP l 1)) := by
 intro n k1 k2 s nm rv row l A c w L2 hR hl hV hwf hA
 dsimp only
 have HWF := Lib.hid (fun W => by have h := pWf_any 9 n k1 k2 s nm A l.length c W; rw [hwf] at h; exact h)
 have HRV := Lib.hid hR
 have HAA := Lib.hid hA
 obtain ⟨Ar, cr, rfl, _, _⟩ := hR
 clear hA
 have G0 := evG l 0 0 rfl (by have h := wf_lo hwf; have h2 : opLo 9 = 2 := rfl; omega)
 have hv0 := vld_get l hV 0
 generalize getP l 0 = p0 at *
 obtain ⟨a0, b0, c0⟩ := p0
 have G1 := evG l 1 1 rfl (by have h := wf_lo hwf; have h2 : opLo 9 = 2 := rfl; omega)
 have hv1 := vld_get l hV 1
 generalize getP l 1 = p1 at *
 obtain ⟨a1, b1, c1⟩ := p1
 have HC := fun W => pCmq_any 9 a0 b0 a1 b1 c0 c1 W (by decide)
 generalize cmqP 9 (a0, b0, c0) (a1, b1, c1) = t at *
 have HF := fun W => eOf t W
 generalize ofP t = r at HF ⊢
 obtain ⟨r1, r2, r3⟩ := r
 unfold valV at *
 dsimp only at *
 clear hwf hV hv0 hv1
 obtain ⟨HE0, HR0, HZ0, HB0⟩ := bx3 w 26 #[.int .i64 9, .int .i64 n, .int .i64 k1, .int .i64 k2, .string s, .string nm, .slice A l.length c] 27 #[.slice Ar row.length cr] 23 #[.int .i64 0, .int .i64 0, .string ⟨#[]⟩]
 go_enter Tryz.func15, Tryz.ntmps15
 go_wp2_with fail
 with_reducible refine (HWF.out _).mono ?_
 rintro e w1 ⟨rfl, hb1⟩
 obtain ⟨HE1, z1, b1, x0, x1, x2, x3, x4, x5, x6, xr⟩ := evIn HE0 HR0 HZ0 HB0 hb1
 have a1 := Below.refl w1.heap.size w1
 have HA := Lib.hid (HAA.out w1 w.heap.size (w.heap.size + 1) b1 x6 xr)
 have HR1 := Lib.hid (HRV.out.step b1 (Nat.le_refl _))
 clear hb1 HE0 HR0 HZ0 HB0 HWF
 go_wp2_with fail
 have HS := Lib.hid (show ∀ w', Below (w.heap.size + 1 + 1) w1.drew w' → (Below (w.heap.size + 1 + 1) w1.drew w' ∧ w'.cell? ⟨w.heap.size, 0, none⟩ = some (.int .i64 9)) from evS x0)
 obtain ⟨hz3, HD, zd⟩ := evD z1
 clear x0 x1 x2 x3 x4 x5 x6 xr HE1 HR1
 go_region_held3 (fun w' => Below (w.heap.size + 1 + 1) w1.drew w' ∧ w'.cell? ⟨w.heap.size, 0, none⟩ = some (.int .i64 9))
  (first | (exact HS.out _ (Below.refl _ _)) | (exact HS.out _ hb) | (exact HS.out _ (((hb.sc _ 0 _).sc _ 1 _).sc _ 2 _)))
  ((first
   | (go_at_call 49; with_reducible refine (G0 w1 _ _ _ HA.out HD.out).mono ?_; rintro e v1 ⟨rfl, hq1⟩; have p1 := evT HD.out hq1; have d1 := evT (Below.refl w1.drew.heap.size w1.drew) hq1; have y1 := zd.below hq1 zd.lt; have hb := d1.mono hz3)
   | (go_at_call 49; with_reducible refine (G1 w1 _ _ _ HA.out p1).mono ?_; rintro e v2 ⟨rfl, hq2⟩; have p2 := evT p1 hq2; have d2 := evT d1 hq2; have y2 := y1.below hq2 y1.lt; have hb := d2.mono hz3)
   | (go_at_call 53; with_reducible refine (HC _).mono ?_; rintro e v3 ⟨rfl, hq3⟩; have p3 := evT p2 hq3; have d3 := evT d2 hq3; have y3 := y2.below hq3 y2.lt; have hb := d3.mono hz3)
   | (go_at_call 51; with_reducible refine (HF _).mono ?_; rintro e v4 ⟨rfl, hq4⟩; have p4 := evT p3 hq4; have d4 := evT d3 hq4; have y4 := y3.below hq4 y3.lt; have hb := d4.mono hz3; have g0 := y4.cell 0; have g1 := y4.cell 1; have g2 := y4.cell 2; have j0 := y4.free 0; have j1 := y4.free 1; have j2 := y4.free 2)))
 have bk := evK b1 (d4)
 go_wp2
 (try simp only [Exit.inBlock, Exit.then]); refine bodyPost_ret_by (results_cell_row1 (by rfl) _ _ (w.heap.size + 1 + 1) _ (by rfl) (load_val (((y4.store 0 _).store 1 _).store 2 _))) ?_ ?_; (focus rfl); refine ⟨rfl, ?_⟩
 (repeat' first | (with_reducible first | exact Below.refl _ _ | assumption | refine Below.alloc ?_ ?_ _ | refine Below.drew ?_ | refine Below.setCell ?_ ?_ _ | refine Below.trans ?_ (Below.mono (by assumption) ?_)) | go_size)
theorem ev_10 : EvC 10 fun _ _ _ _ _ _ l => ofP (cmqP 10 (getP l 0) (getP l 1)) := by
 intro n k1 k2 s nm rv row l A c w L2 hR hl hV hwf hA
 dsimp only
 have HWF := Lib.hid (fun W => by have h := pWf_any 10 n k1 k2 s nm A l.length c W; rw [hwf] at h; exact h)
 have HRV := Lib.hid hR
 have HAA := Lib.hid hA
 obtain ⟨Ar, cr, rfl, _, _⟩ := hR
 clear hA
 have G0 := evG l 0 0 rfl (by have h := wf_lo hwf; have h2 : opLo 10 = 2 := rfl; omega)
 have hv0 := vld_get l hV 0
 generalize getP l 0 = p0 at *
 obtain ⟨a0, b0, c0⟩ := p0
 have G1 := evG l 1 1 rfl (by have h := wf_lo hwf; have h2 : opLo 10 = 2 := rfl; omega)
 have hv1 := vld_get l hV 1
 generalize getP l 1 = p1 at *
 obtain ⟨a1, b1, c1⟩ := p1
 have HC := fun W => pCmq_any 10 a0 b0 a1 b1 c0 c1 W (by decide)
 generalize cmqP 10 (a0, b0, c0) (a1, b1, c1) = t at *
 have HF := fun W => eOf t W
 generalize ofP t = r at HF ⊢
 obtain ⟨r1, r2, r3⟩ := r
 unfold valV at *
 dsimp only at *
 clear hwf hV hv0 hv1
 obtain ⟨HE0, HR0, HZ0, HB0⟩ := bx3 w 26 #[.int .i64 10, .int .i64 n, .int .i64 k1, .int .i64 k2, .string s, .string nm, .slice A l.length c] 27 #[.slice Ar row.length cr] 23 #[.int .i64 0, .int .i64 0, .string ⟨#[]⟩]
 go_enter Tryz.func15, Tryz.ntmps15
 go_wp2_with fail
 with_reducible refine (HWF.out _).mono ?_
 rintro e w1 ⟨rfl, hb1⟩
 obtain ⟨HE1, z1, b1, x0, x1, x2, x3, x4, x5, x6, xr⟩ := evIn HE0 HR0 HZ0 HB0 hb1
 have a1 := Below.refl w1.heap.size w1
 have HA := Lib.hid (HAA.out w1 w.heap.size (w.heap.size + 1) b1 x6 xr)
 have HR1 := Lib.hid (HRV.out.step b1 (Nat.le_refl _))
 clear hb1 HE0 HR0 HZ0 HB0 HWF
 go_wp2_with fail
 have HS := Lib.hid (show ∀ w', Below (w.heap.size + 1 + 1) w1.drew w' → (Below (w.heap.size + 1 + 1) w1.drew w' ∧ w'.cell? ⟨w.heap.size, 0, none⟩ = some (.int .i64 10)) from evS x0)
 obtain ⟨hz3, HD, zd⟩ := evD z1
 clear x0 x1 x2 x3 x4 x5 x6 xr HE1 HR1
 go_region_held3 (fun w' => Below (w.heap.size + 1 + 1) w1.drew w' ∧ w'.cell? ⟨w.heap.size, 0, none⟩ = some (.int .i64 10))
  (first | (exact HS.out _ (Below.refl _ _)) | (exact HS.out _ hb) | (exact HS.out _ (((hb.sc _ 0 _).sc _ 1 _).sc _ 2 _)))
  ((first
   | (go_at_call 49; with_reducible refine (G0 w1 _ _ _ HA.out HD.out).mono ?_; rintro e v1 ⟨rfl, hq1⟩; have p1 := evT HD.out hq1; have d1 := evT (Below.refl w1.drew.heap.size w1.drew) hq1; have y1 := zd.below hq1 zd.lt; have hb := d1.mono hz3)
   | (go_at_call 49; with_reducible refine (G1 w1 _ _ _ HA.out p1).mono ?_; rintro e v2 ⟨rfl, hq2⟩; have p2 := evT p1 hq2; have d2 := evT d1 hq2; have y2 := y1.below hq2 y1.lt; have hb := d2.mono hz3)
   | (go_at_call 53; with_reducible refine (HC _).mono ?_; rintro e v3 ⟨rfl, hq3⟩; have p3 := evT p2 hq3; have d3 := evT d2 hq3; have y3 := y2.below hq3 y2.lt; have hb := d3.mono hz3)
   | (go_at_call 51; with_reducible refine (HF _).mono ?_; rintro e v4 ⟨rfl, hq4⟩; have p4 := evT p3 hq4; have d4 := evT d3 hq4; have y4 := y3.below hq4 y3.lt; have hb := d4.mono hz3; have g0 := y4.cell 0; have g1 := y4.cell 1; have g2 := y4.cell 2; have j0 := y4.free 0; have j1 := y4.free 1; have j2 := y4.free 2)))
 have bk := evK b1 (d4)
 go_wp2
 (try simp only [Exit.inBlock, Exit.then]); refine bodyPost_ret_by (results_cell_row1 (by rfl) _ _ (w.heap.size + 1 + 1) _ (by rfl) (load_val (((y4.store 0 _).store 1 _).store 2 _))) ?_ ?_; (focus rfl); refine ⟨rfl, ?_⟩
 (repeat' first | (with_reducible first | exact Below.refl _ _ | assumption | refine Below.alloc ?_ ?_ _ | refine Below.drew ?_ | refine Below.setCell ?_ ?_ _ | refine Below.trans ?_ (Below.mono (by assumption) ?_)) | go_size)
theorem ev_11 : EvC 11 fun _ _ _ _ _ _ l => ofP (cmqP 11 (getP l 0) (getP l 1)) := by
 intro n k1 k2 s nm rv row l A c w L2 hR hl hV hwf hA
 dsimp only
 have HWF := Lib.hid (fun W => by have h := pWf_any 11 n k1 k2 s nm A l.length c W; rw [hwf] at h; exact h)
 have HRV := Lib.hid hR
 have HAA := Lib.hid hA
 obtain ⟨Ar, cr, rfl, _, _⟩ := hR
 clear hA
 have G0 := evG l 0 0 rfl (by have h := wf_lo hwf; have h2 : opLo 11 = 2 := rfl; omega)
 have hv0 := vld_get l hV 0
 generalize getP l 0 = p0 at *
 obtain ⟨a0, b0, c0⟩ := p0
 have G1 := evG l 1 1 rfl (by have h := wf_lo hwf; have h2 : opLo 11 = 2 := rfl; omega)
 have hv1 := vld_get l hV 1
 generalize getP l 1 = p1 at *
 obtain ⟨a1, b1, c1⟩ := p1
 have HC := fun W => pCmq_any 11 a0 b0 a1 b1 c0 c1 W (by decide)
 generalize cmqP 11 (a0, b0, c0) (a1, b1, c1) = t at *
 have HF := fun W => eOf t W
 generalize ofP t = r at HF ⊢
 obtain ⟨r1, r2, r3⟩ := r
 unfold valV at *
 dsimp only at *
 clear hwf hV hv0 hv1
 obtain ⟨HE0, HR0, HZ0, HB0⟩ := bx3 w 26 #[.int .i64 11, .int .i64 n, .int .i64 k1, .int .i64 k2, .string s, .string nm, .slice A l.length c] 27 #[.slice Ar row.length cr] 23 #[.int .i64 0, .int .i64 0, .string ⟨#[]⟩]
 go_enter Tryz.func15, Tryz.ntmps15
 go_wp2_with fail
 with_reducible refine (HWF.out _).mono ?_
 rintro e w1 ⟨rfl, hb1⟩
 obtain ⟨HE1, z1, b1, x0, x1, x2, x3, x4, x5, x6, xr⟩ := evIn HE0 HR0 HZ0 HB0 hb1
 have a1 := Below.refl w1.heap.size w1
 have HA := Lib.hid (HAA.out w1 w.heap.size (w.heap.size + 1) b1 x6 xr)
 have HR1 := Lib.hid (HRV.out.step b1 (Nat.le_refl _))
 clear hb1 HE0 HR0 HZ0 HB0 HWF
 go_wp2_with fail
 have HS := Lib.hid (show ∀ w', Below (w.heap.size + 1 + 1) w1.drew w' → (Below (w.heap.size + 1 + 1) w1.drew w' ∧ w'.cell? ⟨w.heap.size, 0, none⟩ = some (.int .i64 11)) from evS x0)
 obtain ⟨hz3, HD, zd⟩ := evD z1
 clear x0 x1 x2 x3 x4 x5 x6 xr HE1 HR1
 go_region_held3 (fun w' => Below (w.heap.size + 1 + 1) w1.drew w' ∧ w'.cell? ⟨w.heap.size, 0, none⟩ = some (.int .i64 11))
  (first | (exact HS.out _ (Below.refl _ _)) | (exact HS.out _ hb) | (exact HS.out _ (((hb.sc _ 0 _).sc _ 1 _).sc _ 2 _)))
  ((first
   | (go_at_call 49; with_reducible refine (G0 w1 _ _ _ HA.out HD.out).mono ?_; rintro e v1 ⟨rfl, hq1⟩; have p1 := evT HD.out hq1; have d1 := evT (Below.refl w1.drew.heap.size w1.drew) hq1; have y1 := zd.below hq1 zd.lt; have hb := d1.mono hz3)
   | (go_at_call 49; with_reducible refine (G1 w1 _ _ _ HA.out p1).mono ?_; rintro e v2 ⟨rfl, hq2⟩; have p2 := evT p1 hq2; have d2 := evT d1 hq2; have y2 := y1.below hq2 y1.lt; have hb := d2.mono hz3)
   | (go_at_call 53; with_reducible refine (HC _).mono ?_; rintro e v3 ⟨rfl, hq3⟩; have p3 := evT p2 hq3; have d3 := evT d2 hq3; have y3 := y2.below hq3 y2.lt; have hb := d3.mono hz3)
   | (go_at_call 51; with_reducible refine (HF _).mono ?_; rintro e v4 ⟨rfl, hq4⟩; have p4 := evT p3 hq4; have d4 := evT d3 hq4; have y4 := y3.below hq4 y3.lt; have hb := d4.mono hz3; have g0 := y4.cell 0; have g1 := y4.cell 1; have g2 := y4.cell 2; have j0 := y4.free 0; have j1 := y4.free 1; have j2 := y4.free 2)))
 have bk := evK b1 (d4)
 go_wp2
 (try simp only [Exit.inBlock, Exit.then]); refine bodyPost_ret_by (results_cell_row1 (by rfl) _ _ (w.heap.size + 1 + 1) _ (by rfl) (load_val (((y4.store 0 _).store 1 _).store 2 _))) ?_ ?_; (focus rfl); refine ⟨rfl, ?_⟩
 (repeat' first | (with_reducible first | exact Below.refl _ _ | assumption | refine Below.alloc ?_ ?_ _ | refine Below.drew ?_ | refine Below.setCell ?_ ?_ _ | refine Below.trans ?_ (Below.mono (by assumption) ?_)) | go_size)
theorem ev_12 : EvC 12 fun _ _ _ _ _ _ l => ofP (cmqP 12 (getP l 0) (getP l 1)) := by
 intro n k1 k2 s nm rv row l A c w L2 hR hl hV hwf hA
 dsimp only
 have HWF := Lib.hid (fun W => by have h := pWf_any 12 n k1 k2 s nm A l.length c W; rw [hwf] at h; exact h)
 have HRV := Lib.hid hR
 have HAA := Lib.hid hA
 obtain ⟨Ar, cr, rfl, _, _⟩ := hR
 clear hA
 have G0 := evG l 0 0 rfl (by have h := wf_lo hwf; have h2 : opLo 12 = 2 := rfl; omega)
 have hv0 := vld_get l hV 0
 generalize getP l 0 = p0 at *
 obtain ⟨a0, b0, c0⟩ := p0
 have G1 := evG l 1 1 rfl (by have h := wf_lo hwf; have h2 : opLo 12 = 2 := rfl; omega)
 have hv1 := vld_get l hV 1
 generalize getP l 1 = p1 at *
 obtain ⟨a1, b1, c1⟩ := p1
 have HC := fun W => pCmq_any 12 a0 b0 a1 b1 c0 c1 W (by decide)
 generalize cmqP 12 (a0, b0, c0) (a1, b1, c1) = t at *
 have HF := fun W => eOf t W
 generalize ofP t = r at HF ⊢
 obtain ⟨r1, r2, r3⟩ := r
 unfold valV at *
 dsimp only at *
 clear hwf hV hv0 hv1
 obtain ⟨HE0, HR0, HZ0, HB0⟩ := bx3 w 26 #[.int .i64 12, .int .i64 n, .int .i64 k1, .int .i64 k2, .string s, .string nm, .slice A l.length c] 27 #[.slice Ar row.length cr] 23 #[.int .i64 0, .int .i64 0, .string ⟨#[]⟩]
 go_enter Tryz.func15, Tryz.ntmps15
 go_wp2_with fail
 with_reducible refine (HWF.out _).mono ?_
 rintro e w1 ⟨rfl, hb1⟩
 obtain ⟨HE1, z1, b1, x0, x1, x2, x3, x4, x5, x6, xr⟩ := evIn HE0 HR0 HZ0 HB0 hb1
 have a1 := Below.refl w1.heap.size w1
 have HA := Lib.hid (HAA.out w1 w.heap.size (w.heap.size + 1) b1 x6 xr)
 have HR1 := Lib.hid (HRV.out.step b1 (Nat.le_refl _))
 clear hb1 HE0 HR0 HZ0 HB0 HWF
 go_wp2_with fail
 have HS := Lib.hid (show ∀ w', Below (w.heap.size + 1 + 1) w1.drew w' → (Below (w.heap.size + 1 + 1) w1.drew w' ∧ w'.cell? ⟨w.heap.size, 0, none⟩ = some (.int .i64 12)) from evS x0)
 obtain ⟨hz3, HD, zd⟩ := evD z1
 clear x0 x1 x2 x3 x4 x5 x6 xr HE1 HR1
 go_region_held3 (fun w' => Below (w.heap.size + 1 + 1) w1.drew w' ∧ w'.cell? ⟨w.heap.size, 0, none⟩ = some (.int .i64 12))
  (first | (exact HS.out _ (Below.refl _ _)) | (exact HS.out _ hb) | (exact HS.out _ (((hb.sc _ 0 _).sc _ 1 _).sc _ 2 _)))
  ((first
   | (go_at_call 49; with_reducible refine (G0 w1 _ _ _ HA.out HD.out).mono ?_; rintro e v1 ⟨rfl, hq1⟩; have p1 := evT HD.out hq1; have d1 := evT (Below.refl w1.drew.heap.size w1.drew) hq1; have y1 := zd.below hq1 zd.lt; have hb := d1.mono hz3)
   | (go_at_call 49; with_reducible refine (G1 w1 _ _ _ HA.out p1).mono ?_; rintro e v2 ⟨rfl, hq2⟩; have p2 := evT p1 hq2; have d2 := evT d1 hq2; have y2 := y1.below hq2 y1.lt; have hb := d2.mono hz3)
   | (go_at_call 53; with_reducible refine (HC _).mono ?_; rintro e v3 ⟨rfl, hq3⟩; have p3 := evT p2 hq3; have d3 := evT d2 hq3; have y3 := y2.below hq3 y2.lt; have hb := d3.mono hz3)
   | (go_at_call 51; with_reducible refine (HF _).mono ?_; rintro e v4 ⟨rfl, hq4⟩; have p4 := evT p3 hq4; have d4 := evT d3 hq4; have y4 := y3.below hq4 y3.lt; have hb := d4.mono hz3; have g0 := y4.cell 0; have g1 := y4.cell 1; have g2 := y4.cell 2; have j0 := y4.free 0; have j1 := y4.free 1; have j2 := y4.free 2)))
 have bk := evK b1 (d4)
 go_wp2
 (try simp only [Exit.inBlock, Exit.then]); refine bodyPost_ret_by (results_cell_row1 (by rfl) _ _ (w.heap.size + 1 + 1) _ (by rfl) (load_val (((y4.store 0 _).store 1 _).store 2 _))) ?_ ?_; (focus rfl); refine ⟨rfl, ?_⟩
 (repeat' first | (with_reducible first | exact Below.refl _ _ | assumption | refine Below.alloc ?_ ?_ _ | refine Below.drew ?_ | refine Below.setCell ?_ ?_ _ | refine Below.trans ?_ (Below.mono (by assumption) ?_)) | go_size)
end Go.Proofs.YtdhemhmgenhmaaaGreat
