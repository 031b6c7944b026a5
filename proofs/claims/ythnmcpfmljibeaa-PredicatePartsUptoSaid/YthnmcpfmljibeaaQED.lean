import Derived.Test.YthnmcpfmljibeaaQEA
import Derived.WalkKit
import Derived.WalkSpells
import Derived.WalkLawsBesides
import Derived.Deep.QuietTactic
import Derived.BigQuiet
import Derived.Handy
import Derived.Lib.Hide
/-
  The value of an expression, by the program, operator by operator. Conditions: lengths, values of rows are read.
-/
namespace Go.Proofs.Ythnmcpfmljibeaa
set_option maxRecDepth 100000
set_option linter.unusedVariables false
set_option linter.unusedSimpArgs false
open Go.RowKit

set_option maxRecDepth 100000 in
set_option maxHeartbeats 12800000 in
theorem ev_13 (n k1 k2 : Int) (s nm : ByteArray) (rv : Value) (row l : List Vl) (A : Option Addr) (c : Nat) (w : World) (L2 : Nat) (hR : RdV w L2 w.heap.size rv row) (hl : l.length ≤ 1099511627776)
    (hV : ∀ p ∈ l, vldP p = true) (hwf : wfE 13 n k1 k2 s nm l.length = true)
    (hA : ∀ (W : World) (g h : Nat), Below w.heap.size w W → W.cell? ⟨g, 6, none⟩ = some (.slice A l.length c) → W.cell? ⟨h, 0, none⟩ = some rv → Args W (.pointer (some ⟨g, 0, none⟩)) (.pointer (some ⟨h, 0, none⟩)) l) :
    Calls Try.prog 37 #[.agg #[.int .i64 13, .int .i64 n, .int .i64 k1, .int .i64 k2, .string s, .string nm, .slice A l.length c], rv] w fun e w' => e = .returned (valV (ariP 13 (getP l 0) (getP l 1))) ∧ Below w.heap.size w w' := by
  have HWF := Lib.hid (fun W => by have h := pWf_any 13 n k1 k2 s nm A l.length c W; rw [hwf] at h; exact h)
  have HRV := Lib.hid hR
  have HAA := Lib.hid hA
  obtain ⟨Ar, cr, rfl, _, _⟩ := hR
  clear hA
  have hi0 : 0 < l.length := by have h := wf_lo hwf; have h2 : opLo 13 = 2 := rfl; omega
  have G0 : ∀ (w1 W : World) (P Q : Value), Args w1 P Q l → Below w1.heap.size w1 W → Calls Try.prog 68 #[.int .i64 0, P, Q] W fun e w' => e = .returned (valV (getP l 0)) ∧ Below W.heap.size W w' := fun w1 W P Q h hb => h 0 W hi0 hb
  have hv0 := vld_get l hV 0
  generalize getP l 0 = p0 at *
  obtain ⟨a0, b0, c0⟩ := p0
  have hi1 : 1 < l.length := by have h := wf_lo hwf; have h2 : opLo 13 = 2 := rfl; omega
  have G1 : ∀ (w1 W : World) (P Q : Value), Args w1 P Q l → Below w1.heap.size w1 W → Calls Try.prog 68 #[.int .i64 1, P, Q] W fun e w' => e = .returned (valV (getP l 1)) ∧ Below W.heap.size W w' := fun w1 W P Q h hb => h 1 W hi1 hb
  have hv1 := vld_get l hV 1
  generalize getP l 1 = p1 at *
  obtain ⟨a1, b1, c1⟩ := p1
  have HF := fun W => pAri_any 13 a0 b0 a1 b1 c0 c1 W (fun h => vld_num hv0 h) (fun h => vld_num hv1 h) (by decide)
  generalize ariP 13 (a0, b0, c0) (a1, b1, c1) = r at HF ⊢
  obtain ⟨r1, r2, r3⟩ := r
  unfold valV at *
  dsimp only at *
  clear hwf hV hv0 hv1
  have HE0 := Lib.hid (show Own (((w.alloc (.cells #[.int .i64 13, .int .i64 n, .int .i64 k1, .int .i64 k2, .string s, .string nm, .slice A l.length c] 26)).alloc (.cells #[.slice Ar row.length cr] 33)).alloc (.cells #[.int .i64 0, .int .i64 0, .string ⟨#[]⟩] 23)) w.heap.size 26 #[.int .i64 13, .int .i64 n, .int .i64 k1, .int .i64 k2, .string s, .string nm, .slice A l.length c] from ((Own.new w _ _).alloc _).alloc _)
  have HR0 := Lib.hid (show Own (((w.alloc (.cells #[.int .i64 13, .int .i64 n, .int .i64 k1, .int .i64 k2, .string s, .string nm, .slice A l.length c] 26)).alloc (.cells #[.slice Ar row.length cr] 33)).alloc (.cells #[.int .i64 0, .int .i64 0, .string ⟨#[]⟩] 23)) (w.heap.size + 1) 33 #[.slice Ar row.length cr] from (Va.own_two _).alloc _)
  have HZ0 := Lib.hid (show Own (((w.alloc (.cells #[.int .i64 13, .int .i64 n, .int .i64 k1, .int .i64 k2, .string s, .string nm, .slice A l.length c] 26)).alloc (.cells #[.slice Ar row.length cr] 33)).alloc (.cells #[.int .i64 0, .int .i64 0, .string ⟨#[]⟩] 23)) (w.heap.size + 1 + 1) 23 #[.int .i64 0, .int .i64 0, .string ⟨#[]⟩] from own_three _ _)
  have HB0 := Lib.hid (show Below w.heap.size w (((w.alloc (.cells #[.int .i64 13, .int .i64 n, .int .i64 k1, .int .i64 k2, .string s, .string nm, .slice A l.length c] 26)).alloc (.cells #[.slice Ar row.length cr] 33)).alloc (.cells #[.int .i64 0, .int .i64 0, .string ⟨#[]⟩] 23)) from ((bel_mk w _).trans ((bel_mk _ _).mono (by simp))).trans ((bel_mk _ _).mono (by simp; omega)))
  go_enter Try.func37, Try.ntmps37
  go_wp2_with fail
  with_reducible refine (HWF.out _).mono ?_
  rintro e w1 ⟨rfl, hb1⟩
  have e1 := HE0.out.below hb1 HE0.out.lt
  have f1 := HR0.out.below hb1 HR0.out.lt
  have z1 := HZ0.out.below hb1 HZ0.out.lt
  have b1 := HB0.out.trans (hb1.mono HB0.out.size)
  have a1 := Below.refl w1.heap.size w1
  have HA := Lib.hid (HAA.out w1 w.heap.size (w.heap.size + 1) b1 (e1.cell 6) (f1.cell 0))
  have HR1 := Lib.hid (HRV.out.step b1 (Nat.le_refl _))
  have x0 := e1.cell 0
  have x1 := e1.cell 1
  have x2 := e1.cell 2
  have x3 := e1.cell 3
  have x4 := e1.cell 4
  have x5 := e1.cell 5
  have x6 := e1.cell 6
  have xr := f1.cell 0
  have HE1 := Lib.hid e1
  clear hb1 HE0 HR0 HZ0 HB0 HWF e1 f1
  go_wp2_with fail
  have HS := Lib.hid (show ∀ w', Below (w.heap.size + 1 + 1) w1.drew w' → (Below (w.heap.size + 1 + 1) w1.drew w' ∧ w'.cell? ⟨w.heap.size, 0, none⟩ = some (.int .i64 13)) from fun w' hb => ⟨hb, (hb.cell (p := ⟨w.heap.size, 0, none⟩) (by show w.heap.size < w.heap.size + 1 + 1; omega)).trans x0⟩)
  have hz3 : w.heap.size + 1 + 1 ≤ w1.drew.heap.size := Nat.le_of_lt (show w.heap.size + 1 + 1 < w1.heap.size from z1.lt)
  have HD := Lib.hid (show Below w1.heap.size w1 w1.drew from (Below.refl _ _).drew)
  have zd := (show Own w1.drew (w.heap.size + 1 + 1) 23 #[.int .i64 0, .int .i64 0, .string ⟨#[]⟩] from z1)
  clear x0 x1 x2 x3 x4 x5 x6 xr HE1 HR1
  go_region_held3 (fun w' => Below (w.heap.size + 1 + 1) w1.drew w' ∧ w'.cell? ⟨w.heap.size, 0, none⟩ = some (.int .i64 13))
    (first | (exact HS.out _ (Below.refl _ _)) | (exact HS.out _ hb) | (exact HS.out _ (((hb.setCell (p := ⟨w.heap.size + 1 + 1, 0, none⟩) (Nat.le_refl _) _).setCell (p := ⟨w.heap.size + 1 + 1, 1, none⟩) (Nat.le_refl _) _).setCell (p := ⟨w.heap.size + 1 + 1, 2, none⟩) (Nat.le_refl _) _)))
    ((first
      | (go_at_call 68; with_reducible refine (G0 w1 _ _ _ HA.out HD.out).mono ?_; rintro e v1 ⟨rfl, hq1⟩; have p1 := HD.out.trans (hq1.mono HD.out.size); have d1 := (Below.refl w1.drew.heap.size w1.drew).trans (hq1.mono (Below.refl w1.drew.heap.size w1.drew).size); have y1 := zd.below hq1 zd.lt; have hb := d1.mono hz3)
      | (go_at_call 68; with_reducible refine (G1 w1 _ _ _ HA.out p1).mono ?_; rintro e v2 ⟨rfl, hq2⟩; have p2 := p1.trans (hq2.mono p1.size); have d2 := d1.trans (hq2.mono d1.size); have y2 := y1.below hq2 y1.lt; have hb := d2.mono hz3)
      | (go_at_call 73; with_reducible refine (HF _).mono ?_; rintro e v3 ⟨rfl, hq3⟩; have p3 := p2.trans (hq3.mono p2.size); have d3 := d2.trans (hq3.mono d2.size); have y3 := y2.below hq3 y2.lt; have hb := d3.mono hz3; have g0 := y3.cell 0; have g1 := y3.cell 1; have g2 := y3.cell 2; have j0 := y3.free 0; have j1 := y3.free 1; have j2 := y3.free 2)))
  have bk := b1.trans ((show Below w.heap.size w1 w1.drew from (Below.refl _ _).drew).trans (d3.mono (Nat.le_trans b1.size (Nat.le_refl _))))
  go_wp2
  (try simp only [Exit.inBlock, Exit.then]); refine bodyPost_ret_by (results_cell_row1 (by rfl) _ _ (w.heap.size + 1 + 1) _ (by rfl) (load_val (((y3.store 0 _).store 1 _).store 2 _))) ?_ ?_; (focus rfl); refine ⟨rfl, ?_⟩
  (repeat' (first | (with_reducible exact Below.refl _ _) | (with_reducible assumption) | (with_reducible refine Below.alloc ?_ ?_ _) | (with_reducible refine Below.drew ?_) | (with_reducible refine Below.setCell ?_ ?_ _) | (with_reducible refine Below.trans ?_ (Below.mono (by assumption) ?_)) | go_size))
set_option maxRecDepth 100000 in
set_option maxHeartbeats 12800000 in
theorem ev_14 (n k1 k2 : Int) (s nm : ByteArray) (rv : Value) (row l : List Vl) (A : Option Addr) (c : Nat) (w : World) (L2 : Nat) (hR : RdV w L2 w.heap.size rv row) (hl : l.length ≤ 1099511627776)
    (hV : ∀ p ∈ l, vldP p = true) (hwf : wfE 14 n k1 k2 s nm l.length = true)
    (hA : ∀ (W : World) (g h : Nat), Below w.heap.size w W → W.cell? ⟨g, 6, none⟩ = some (.slice A l.length c) → W.cell? ⟨h, 0, none⟩ = some rv → Args W (.pointer (some ⟨g, 0, none⟩)) (.pointer (some ⟨h, 0, none⟩)) l) :
    Calls Try.prog 37 #[.agg #[.int .i64 14, .int .i64 n, .int .i64 k1, .int .i64 k2, .string s, .string nm, .slice A l.length c], rv] w fun e w' => e = .returned (valV (ariP 14 (getP l 0) (getP l 1))) ∧ Below w.heap.size w w' := by
  have HWF := Lib.hid (fun W => by have h := pWf_any 14 n k1 k2 s nm A l.length c W; rw [hwf] at h; exact h)
  have HRV := Lib.hid hR
  have HAA := Lib.hid hA
  obtain ⟨Ar, cr, rfl, _, _⟩ := hR
  clear hA
  have hi0 : 0 < l.length := by have h := wf_lo hwf; have h2 : opLo 14 = 2 := rfl; omega
  have G0 : ∀ (w1 W : World) (P Q : Value), Args w1 P Q l → Below w1.heap.size w1 W → Calls Try.prog 68 #[.int .i64 0, P, Q] W fun e w' => e = .returned (valV (getP l 0)) ∧ Below W.heap.size W w' := fun w1 W P Q h hb => h 0 W hi0 hb
  have hv0 := vld_get l hV 0
  generalize getP l 0 = p0 at *
  obtain ⟨a0, b0, c0⟩ := p0
  have hi1 : 1 < l.length := by have h := wf_lo hwf; have h2 : opLo 14 = 2 := rfl; omega
  have G1 : ∀ (w1 W : World) (P Q : Value), Args w1 P Q l → Below w1.heap.size w1 W → Calls Try.prog 68 #[.int .i64 1, P, Q] W fun e w' => e = .returned (valV (getP l 1)) ∧ Below W.heap.size W w' := fun w1 W P Q h hb => h 1 W hi1 hb
  have hv1 := vld_get l hV 1
  generalize getP l 1 = p1 at *
  obtain ⟨a1, b1, c1⟩ := p1
  have HF := fun W => pAri_any 14 a0 b0 a1 b1 c0 c1 W (fun h => vld_num hv0 h) (fun h => vld_num hv1 h) (by decide)
  generalize ariP 14 (a0, b0, c0) (a1, b1, c1) = r at HF ⊢
  obtain ⟨r1, r2, r3⟩ := r
  unfold valV at *
  dsimp only at *
  clear hwf hV hv0 hv1
  have HE0 := Lib.hid (show Own (((w.alloc (.cells #[.int .i64 14, .int .i64 n, .int .i64 k1, .int .i64 k2, .string s, .string nm, .slice A l.length c] 26)).alloc (.cells #[.slice Ar row.length cr] 33)).alloc (.cells #[.int .i64 0, .int .i64 0, .string ⟨#[]⟩] 23)) w.heap.size 26 #[.int .i64 14, .int .i64 n, .int .i64 k1, .int .i64 k2, .string s, .string nm, .slice A l.length c] from ((Own.new w _ _).alloc _).alloc _)
  have HR0 := Lib.hid (show Own (((w.alloc (.cells #[.int .i64 14, .int .i64 n, .int .i64 k1, .int .i64 k2, .string s, .string nm, .slice A l.length c] 26)).alloc (.cells #[.slice Ar row.length cr] 33)).alloc (.cells #[.int .i64 0, .int .i64 0, .string ⟨#[]⟩] 23)) (w.heap.size + 1) 33 #[.slice Ar row.length cr] from (Va.own_two _).alloc _)
  have HZ0 := Lib.hid (show Own (((w.alloc (.cells #[.int .i64 14, .int .i64 n, .int .i64 k1, .int .i64 k2, .string s, .string nm, .slice A l.length c] 26)).alloc (.cells #[.slice Ar row.length cr] 33)).alloc (.cells #[.int .i64 0, .int .i64 0, .string ⟨#[]⟩] 23)) (w.heap.size + 1 + 1) 23 #[.int .i64 0, .int .i64 0, .string ⟨#[]⟩] from own_three _ _)
  have HB0 := Lib.hid (show Below w.heap.size w (((w.alloc (.cells #[.int .i64 14, .int .i64 n, .int .i64 k1, .int .i64 k2, .string s, .string nm, .slice A l.length c] 26)).alloc (.cells #[.slice Ar row.length cr] 33)).alloc (.cells #[.int .i64 0, .int .i64 0, .string ⟨#[]⟩] 23)) from ((bel_mk w _).trans ((bel_mk _ _).mono (by simp))).trans ((bel_mk _ _).mono (by simp; omega)))
  go_enter Try.func37, Try.ntmps37
  go_wp2_with fail
  with_reducible refine (HWF.out _).mono ?_
  rintro e w1 ⟨rfl, hb1⟩
  have e1 := HE0.out.below hb1 HE0.out.lt
  have f1 := HR0.out.below hb1 HR0.out.lt
  have z1 := HZ0.out.below hb1 HZ0.out.lt
  have b1 := HB0.out.trans (hb1.mono HB0.out.size)
  have a1 := Below.refl w1.heap.size w1
  have HA := Lib.hid (HAA.out w1 w.heap.size (w.heap.size + 1) b1 (e1.cell 6) (f1.cell 0))
  have HR1 := Lib.hid (HRV.out.step b1 (Nat.le_refl _))
  have x0 := e1.cell 0
  have x1 := e1.cell 1
  have x2 := e1.cell 2
  have x3 := e1.cell 3
  have x4 := e1.cell 4
  have x5 := e1.cell 5
  have x6 := e1.cell 6
  have xr := f1.cell 0
  have HE1 := Lib.hid e1
  clear hb1 HE0 HR0 HZ0 HB0 HWF e1 f1
  go_wp2_with fail
  have HS := Lib.hid (show ∀ w', Below (w.heap.size + 1 + 1) w1.drew w' → (Below (w.heap.size + 1 + 1) w1.drew w' ∧ w'.cell? ⟨w.heap.size, 0, none⟩ = some (.int .i64 14)) from fun w' hb => ⟨hb, (hb.cell (p := ⟨w.heap.size, 0, none⟩) (by show w.heap.size < w.heap.size + 1 + 1; omega)).trans x0⟩)
  have hz3 : w.heap.size + 1 + 1 ≤ w1.drew.heap.size := Nat.le_of_lt (show w.heap.size + 1 + 1 < w1.heap.size from z1.lt)
  have HD := Lib.hid (show Below w1.heap.size w1 w1.drew from (Below.refl _ _).drew)
  have zd := (show Own w1.drew (w.heap.size + 1 + 1) 23 #[.int .i64 0, .int .i64 0, .string ⟨#[]⟩] from z1)
  clear x0 x1 x2 x3 x4 x5 x6 xr HE1 HR1
  go_region_held3 (fun w' => Below (w.heap.size + 1 + 1) w1.drew w' ∧ w'.cell? ⟨w.heap.size, 0, none⟩ = some (.int .i64 14))
    (first | (exact HS.out _ (Below.refl _ _)) | (exact HS.out _ hb) | (exact HS.out _ (((hb.setCell (p := ⟨w.heap.size + 1 + 1, 0, none⟩) (Nat.le_refl _) _).setCell (p := ⟨w.heap.size + 1 + 1, 1, none⟩) (Nat.le_refl _) _).setCell (p := ⟨w.heap.size + 1 + 1, 2, none⟩) (Nat.le_refl _) _)))
    ((first
      | (go_at_call 68; with_reducible refine (G0 w1 _ _ _ HA.out HD.out).mono ?_; rintro e v1 ⟨rfl, hq1⟩; have p1 := HD.out.trans (hq1.mono HD.out.size); have d1 := (Below.refl w1.drew.heap.size w1.drew).trans (hq1.mono (Below.refl w1.drew.heap.size w1.drew).size); have y1 := zd.below hq1 zd.lt; have hb := d1.mono hz3)
      | (go_at_call 68; with_reducible refine (G1 w1 _ _ _ HA.out p1).mono ?_; rintro e v2 ⟨rfl, hq2⟩; have p2 := p1.trans (hq2.mono p1.size); have d2 := d1.trans (hq2.mono d1.size); have y2 := y1.below hq2 y1.lt; have hb := d2.mono hz3)
      | (go_at_call 73; with_reducible refine (HF _).mono ?_; rintro e v3 ⟨rfl, hq3⟩; have p3 := p2.trans (hq3.mono p2.size); have d3 := d2.trans (hq3.mono d2.size); have y3 := y2.below hq3 y2.lt; have hb := d3.mono hz3; have g0 := y3.cell 0; have g1 := y3.cell 1; have g2 := y3.cell 2; have j0 := y3.free 0; have j1 := y3.free 1; have j2 := y3.free 2)))
  have bk := b1.trans ((show Below w.heap.size w1 w1.drew from (Below.refl _ _).drew).trans (d3.mono (Nat.le_trans b1.size (Nat.le_refl _))))
  go_wp2
  (try simp only [Exit.inBlock, Exit.then]); refine bodyPost_ret_by (results_cell_row1 (by rfl) _ _ (w.heap.size + 1 + 1) _ (by rfl) (load_val (((y3.store 0 _).store 1 _).store 2 _))) ?_ ?_; (focus rfl); refine ⟨rfl, ?_⟩
  (repeat' (first | (with_reducible exact Below.refl _ _) | (with_reducible assumption) | (with_reducible refine Below.alloc ?_ ?_ _) | (with_reducible refine Below.drew ?_) | (with_reducible refine Below.setCell ?_ ?_ _) | (with_reducible refine Below.trans ?_ (Below.mono (by assumption) ?_)) | go_size))
set_option maxRecDepth 100000 in
set_option maxHeartbeats 12800000 in
theorem ev_15 (n k1 k2 : Int) (s nm : ByteArray) (rv : Value) (row l : List Vl) (A : Option Addr) (c : Nat) (w : World) (L2 : Nat) (hR : RdV w L2 w.heap.size rv row) (hl : l.length ≤ 1099511627776)
    (hV : ∀ p ∈ l, vldP p = true) (hwf : wfE 15 n k1 k2 s nm l.length = true)
    (hA : ∀ (W : World) (g h : Nat), Below w.heap.size w W → W.cell? ⟨g, 6, none⟩ = some (.slice A l.length c) → W.cell? ⟨h, 0, none⟩ = some rv → Args W (.pointer (some ⟨g, 0, none⟩)) (.pointer (some ⟨h, 0, none⟩)) l) :
    Calls Try.prog 37 #[.agg #[.int .i64 15, .int .i64 n, .int .i64 k1, .int .i64 k2, .string s, .string nm, .slice A l.length c], rv] w fun e w' => e = .returned (valV (ariP 15 (getP l 0) (getP l 1))) ∧ Below w.heap.size w w' := by
  have HWF := Lib.hid (fun W => by have h := pWf_any 15 n k1 k2 s nm A l.length c W; rw [hwf] at h; exact h)
  have HRV := Lib.hid hR
  have HAA := Lib.hid hA
  obtain ⟨Ar, cr, rfl, _, _⟩ := hR
  clear hA
  have hi0 : 0 < l.length := by have h := wf_lo hwf; have h2 : opLo 15 = 2 := rfl; omega
  have G0 : ∀ (w1 W : World) (P Q : Value), Args w1 P Q l → Below w1.heap.size w1 W → Calls Try.prog 68 #[.int .i64 0, P, Q] W fun e w' => e = .returned (valV (getP l 0)) ∧ Below W.heap.size W w' := fun w1 W P Q h hb => h 0 W hi0 hb
  have hv0 := vld_get l hV 0
  generalize getP l 0 = p0 at *
  obtain ⟨a0, b0, c0⟩ := p0
  have hi1 : 1 < l.length := by have h := wf_lo hwf; have h2 : opLo 15 = 2 := rfl; omega
  have G1 : ∀ (w1 W : World) (P Q : Value), Args w1 P Q l → Below w1.heap.size w1 W → Calls Try.prog 68 #[.int .i64 1, P, Q] W fun e w' => e = .returned (valV (getP l 1)) ∧ Below W.heap.size W w' := fun w1 W P Q h hb => h 1 W hi1 hb
  have hv1 := vld_get l hV 1
  generalize getP l 1 = p1 at *
  obtain ⟨a1, b1, c1⟩ := p1
  have HF := fun W => pAri_any 15 a0 b0 a1 b1 c0 c1 W (fun h => vld_num hv0 h) (fun h => vld_num hv1 h) (by decide)
  generalize ariP 15 (a0, b0, c0) (a1, b1, c1) = r at HF ⊢
  obtain ⟨r1, r2, r3⟩ := r
  unfold valV at *
  dsimp only at *
  clear hwf hV hv0 hv1
  have HE0 := Lib.hid (show Own (((w.alloc (.cells #[.int .i64 15, .int .i64 n, .int .i64 k1, .int .i64 k2, .string s, .string nm, .slice A l.length c] 26)).alloc (.cells #[.slice Ar row.length cr] 33)).alloc (.cells #[.int .i64 0, .int .i64 0, .string ⟨#[]⟩] 23)) w.heap.size 26 #[.int .i64 15, .int .i64 n, .int .i64 k1, .int .i64 k2, .string s, .string nm, .slice A l.length c] from ((Own.new w _ _).alloc _).alloc _)
  have HR0 := Lib.hid (show Own (((w.alloc (.cells #[.int .i64 15, .int .i64 n, .int .i64 k1, .int .i64 k2, .string s, .string nm, .slice A l.length c] 26)).alloc (.cells #[.slice Ar row.length cr] 33)).alloc (.cells #[.int .i64 0, .int .i64 0, .string ⟨#[]⟩] 23)) (w.heap.size + 1) 33 #[.slice Ar row.length cr] from (Va.own_two _).alloc _)
  have HZ0 := Lib.hid (show Own (((w.alloc (.cells #[.int .i64 15, .int .i64 n, .int .i64 k1, .int .i64 k2, .string s, .string nm, .slice A l.length c] 26)).alloc (.cells #[.slice Ar row.length cr] 33)).alloc (.cells #[.int .i64 0, .int .i64 0, .string ⟨#[]⟩] 23)) (w.heap.size + 1 + 1) 23 #[.int .i64 0, .int .i64 0, .string ⟨#[]⟩] from own_three _ _)
  have HB0 := Lib.hid (show Below w.heap.size w (((w.alloc (.cells #[.int .i64 15, .int .i64 n, .int .i64 k1, .int .i64 k2, .string s, .string nm, .slice A l.length c] 26)).alloc (.cells #[.slice Ar row.length cr] 33)).alloc (.cells #[.int .i64 0, .int .i64 0, .string ⟨#[]⟩] 23)) from ((bel_mk w _).trans ((bel_mk _ _).mono (by simp))).trans ((bel_mk _ _).mono (by simp; omega)))
  go_enter Try.func37, Try.ntmps37
  go_wp2_with fail
  with_reducible refine (HWF.out _).mono ?_
  rintro e w1 ⟨rfl, hb1⟩
  have e1 := HE0.out.below hb1 HE0.out.lt
  have f1 := HR0.out.below hb1 HR0.out.lt
  have z1 := HZ0.out.below hb1 HZ0.out.lt
  have b1 := HB0.out.trans (hb1.mono HB0.out.size)
  have a1 := Below.refl w1.heap.size w1
  have HA := Lib.hid (HAA.out w1 w.heap.size (w.heap.size + 1) b1 (e1.cell 6) (f1.cell 0))
  have HR1 := Lib.hid (HRV.out.step b1 (Nat.le_refl _))
  have x0 := e1.cell 0
  have x1 := e1.cell 1
  have x2 := e1.cell 2
  have x3 := e1.cell 3
  have x4 := e1.cell 4
  have x5 := e1.cell 5
  have x6 := e1.cell 6
  have xr := f1.cell 0
  have HE1 := Lib.hid e1
  clear hb1 HE0 HR0 HZ0 HB0 HWF e1 f1
  go_wp2_with fail
  have HS := Lib.hid (show ∀ w', Below (w.heap.size + 1 + 1) w1.drew w' → (Below (w.heap.size + 1 + 1) w1.drew w' ∧ w'.cell? ⟨w.heap.size, 0, none⟩ = some (.int .i64 15)) from fun w' hb => ⟨hb, (hb.cell (p := ⟨w.heap.size, 0, none⟩) (by show w.heap.size < w.heap.size + 1 + 1; omega)).trans x0⟩)
  have hz3 : w.heap.size + 1 + 1 ≤ w1.drew.heap.size := Nat.le_of_lt (show w.heap.size + 1 + 1 < w1.heap.size from z1.lt)
  have HD := Lib.hid (show Below w1.heap.size w1 w1.drew from (Below.refl _ _).drew)
  have zd := (show Own w1.drew (w.heap.size + 1 + 1) 23 #[.int .i64 0, .int .i64 0, .string ⟨#[]⟩] from z1)
  clear x0 x1 x2 x3 x4 x5 x6 xr HE1 HR1
  go_region_held3 (fun w' => Below (w.heap.size + 1 + 1) w1.drew w' ∧ w'.cell? ⟨w.heap.size, 0, none⟩ = some (.int .i64 15))
    (first | (exact HS.out _ (Below.refl _ _)) | (exact HS.out _ hb) | (exact HS.out _ (((hb.setCell (p := ⟨w.heap.size + 1 + 1, 0, none⟩) (Nat.le_refl _) _).setCell (p := ⟨w.heap.size + 1 + 1, 1, none⟩) (Nat.le_refl _) _).setCell (p := ⟨w.heap.size + 1 + 1, 2, none⟩) (Nat.le_refl _) _)))
    ((first
      | (go_at_call 68; with_reducible refine (G0 w1 _ _ _ HA.out HD.out).mono ?_; rintro e v1 ⟨rfl, hq1⟩; have p1 := HD.out.trans (hq1.mono HD.out.size); have d1 := (Below.refl w1.drew.heap.size w1.drew).trans (hq1.mono (Below.refl w1.drew.heap.size w1.drew).size); have y1 := zd.below hq1 zd.lt; have hb := d1.mono hz3)
      | (go_at_call 68; with_reducible refine (G1 w1 _ _ _ HA.out p1).mono ?_; rintro e v2 ⟨rfl, hq2⟩; have p2 := p1.trans (hq2.mono p1.size); have d2 := d1.trans (hq2.mono d1.size); have y2 := y1.below hq2 y1.lt; have hb := d2.mono hz3)
      | (go_at_call 73; with_reducible refine (HF _).mono ?_; rintro e v3 ⟨rfl, hq3⟩; have p3 := p2.trans (hq3.mono p2.size); have d3 := d2.trans (hq3.mono d2.size); have y3 := y2.below hq3 y2.lt; have hb := d3.mono hz3; have g0 := y3.cell 0; have g1 := y3.cell 1; have g2 := y3.cell 2; have j0 := y3.free 0; have j1 := y3.free 1; have j2 := y3.free 2)))
  have bk := b1.trans ((show Below w.heap.size w1 w1.drew from (Below.refl _ _).drew).trans (d3.mono (Nat.le_trans b1.size (Nat.le_refl _))))
  go_wp2
  (try simp only [Exit.inBlock, Exit.then]); refine bodyPost_ret_by (results_cell_row1 (by rfl) _ _ (w.heap.size + 1 + 1) _ (by rfl) (load_val (((y3.store 0 _).store 1 _).store 2 _))) ?_ ?_; (focus rfl); refine ⟨rfl, ?_⟩
  (repeat' (first | (with_reducible exact Below.refl _ _) | (with_reducible assumption) | (with_reducible refine Below.alloc ?_ ?_ _) | (with_reducible refine Below.drew ?_) | (with_reducible refine Below.setCell ?_ ?_ _) | (with_reducible refine Below.trans ?_ (Below.mono (by assumption) ?_)) | go_size))
set_option maxRecDepth 100000 in
set_option maxHeartbeats 12800000 in
theorem ev_16 (n k1 k2 : Int) (s nm : ByteArray) (rv : Value) (row l : List Vl) (A : Option Addr) (c : Nat) (w : World) (L2 : Nat) (hR : RdV w L2 w.heap.size rv row) (hl : l.length ≤ 1099511627776)
    (hV : ∀ p ∈ l, vldP p = true) (hwf : wfE 16 n k1 k2 s nm l.length = true)
    (hA : ∀ (W : World) (g h : Nat), Below w.heap.size w W → W.cell? ⟨g, 6, none⟩ = some (.slice A l.length c) → W.cell? ⟨h, 0, none⟩ = some rv → Args W (.pointer (some ⟨g, 0, none⟩)) (.pointer (some ⟨h, 0, none⟩)) l) :
    Calls Try.prog 37 #[.agg #[.int .i64 16, .int .i64 n, .int .i64 k1, .int .i64 k2, .string s, .string nm, .slice A l.length c], rv] w fun e w' => e = .returned (valV (ariP 16 (getP l 0) (getP l 1))) ∧ Below w.heap.size w w' := by
  have HWF := Lib.hid (fun W => by have h := pWf_any 16 n k1 k2 s nm A l.length c W; rw [hwf] at h; exact h)
  have HRV := Lib.hid hR
  have HAA := Lib.hid hA
  obtain ⟨Ar, cr, rfl, _, _⟩ := hR
  clear hA
  have hi0 : 0 < l.length := by have h := wf_lo hwf; have h2 : opLo 16 = 2 := rfl; omega
  have G0 : ∀ (w1 W : World) (P Q : Value), Args w1 P Q l → Below w1.heap.size w1 W → Calls Try.prog 68 #[.int .i64 0, P, Q] W fun e w' => e = .returned (valV (getP l 0)) ∧ Below W.heap.size W w' := fun w1 W P Q h hb => h 0 W hi0 hb
  have hv0 := vld_get l hV 0
  generalize getP l 0 = p0 at *
  obtain ⟨a0, b0, c0⟩ := p0
  have hi1 : 1 < l.length := by have h := wf_lo hwf; have h2 : opLo 16 = 2 := rfl; omega
  have G1 : ∀ (w1 W : World) (P Q : Value), Args w1 P Q l → Below w1.heap.size w1 W → Calls Try.prog 68 #[.int .i64 1, P, Q] W fun e w' => e = .returned (valV (getP l 1)) ∧ Below W.heap.size W w' := fun w1 W P Q h hb => h 1 W hi1 hb
  have hv1 := vld_get l hV 1
  generalize getP l 1 = p1 at *
  obtain ⟨a1, b1, c1⟩ := p1
  have HF := fun W => pAri_any 16 a0 b0 a1 b1 c0 c1 W (fun h => vld_num hv0 h) (fun h => vld_num hv1 h) (by decide)
  generalize ariP 16 (a0, b0, c0) (a1, b1, c1) = r at HF ⊢
  obtain ⟨r1, r2, r3⟩ := r
  unfold valV at *
  dsimp only at *
  clear hwf hV hv0 hv1
  have HE0 := Lib.hid (show Own (((w.alloc (.cells #[.int .i64 16, .int .i64 n, .int .i64 k1, .int .i64 k2, .string s, .string nm, .slice A l.length c] 26)).alloc (.cells #[.slice Ar row.length cr] 33)).alloc (.cells #[.int .i64 0, .int .i64 0, .string ⟨#[]⟩] 23)) w.heap.size 26 #[.int .i64 16, .int .i64 n, .int .i64 k1, .int .i64 k2, .string s, .string nm, .slice A l.length c] from ((Own.new w _ _).alloc _).alloc _)
  have HR0 := Lib.hid (show Own (((w.alloc (.cells #[.int .i64 16, .int .i64 n, .int .i64 k1, .int .i64 k2, .string s, .string nm, .slice A l.length c] 26)).alloc (.cells #[.slice Ar row.length cr] 33)).alloc (.cells #[.int .i64 0, .int .i64 0, .string ⟨#[]⟩] 23)) (w.heap.size + 1) 33 #[.slice Ar row.length cr] from (Va.own_two _).alloc _)
  have HZ0 := Lib.hid (show Own (((w.alloc (.cells #[.int .i64 16, .int .i64 n, .int .i64 k1, .int .i64 k2, .string s, .string nm, .slice A l.length c] 26)).alloc (.cells #[.slice Ar row.length cr] 33)).alloc (.cells #[.int .i64 0, .int .i64 0, .string ⟨#[]⟩] 23)) (w.heap.size + 1 + 1) 23 #[.int .i64 0, .int .i64 0, .string ⟨#[]⟩] from own_three _ _)
  have HB0 := Lib.hid (show Below w.heap.size w (((w.alloc (.cells #[.int .i64 16, .int .i64 n, .int .i64 k1, .int .i64 k2, .string s, .string nm, .slice A l.length c] 26)).alloc (.cells #[.slice Ar row.length cr] 33)).alloc (.cells #[.int .i64 0, .int .i64 0, .string ⟨#[]⟩] 23)) from ((bel_mk w _).trans ((bel_mk _ _).mono (by simp))).trans ((bel_mk _ _).mono (by simp; omega)))
  go_enter Try.func37, Try.ntmps37
  go_wp2_with fail
  with_reducible refine (HWF.out _).mono ?_
  rintro e w1 ⟨rfl, hb1⟩
  have e1 := HE0.out.below hb1 HE0.out.lt
  have f1 := HR0.out.below hb1 HR0.out.lt
  have z1 := HZ0.out.below hb1 HZ0.out.lt
  have b1 := HB0.out.trans (hb1.mono HB0.out.size)
  have a1 := Below.refl w1.heap.size w1
  have HA := Lib.hid (HAA.out w1 w.heap.size (w.heap.size + 1) b1 (e1.cell 6) (f1.cell 0))
  have HR1 := Lib.hid (HRV.out.step b1 (Nat.le_refl _))
  have x0 := e1.cell 0
  have x1 := e1.cell 1
  have x2 := e1.cell 2
  have x3 := e1.cell 3
  have x4 := e1.cell 4
  have x5 := e1.cell 5
  have x6 := e1.cell 6
  have xr := f1.cell 0
  have HE1 := Lib.hid e1
  clear hb1 HE0 HR0 HZ0 HB0 HWF e1 f1
  go_wp2_with fail
  have HS := Lib.hid (show ∀ w', Below (w.heap.size + 1 + 1) w1.drew w' → (Below (w.heap.size + 1 + 1) w1.drew w' ∧ w'.cell? ⟨w.heap.size, 0, none⟩ = some (.int .i64 16)) from fun w' hb => ⟨hb, (hb.cell (p := ⟨w.heap.size, 0, none⟩) (by show w.heap.size < w.heap.size + 1 + 1; omega)).trans x0⟩)
  have hz3 : w.heap.size + 1 + 1 ≤ w1.drew.heap.size := Nat.le_of_lt (show w.heap.size + 1 + 1 < w1.heap.size from z1.lt)
  have HD := Lib.hid (show Below w1.heap.size w1 w1.drew from (Below.refl _ _).drew)
  have zd := (show Own w1.drew (w.heap.size + 1 + 1) 23 #[.int .i64 0, .int .i64 0, .string ⟨#[]⟩] from z1)
  clear x0 x1 x2 x3 x4 x5 x6 xr HE1 HR1
  go_region_held3 (fun w' => Below (w.heap.size + 1 + 1) w1.drew w' ∧ w'.cell? ⟨w.heap.size, 0, none⟩ = some (.int .i64 16))
    (first | (exact HS.out _ (Below.refl _ _)) | (exact HS.out _ hb) | (exact HS.out _ (((hb.setCell (p := ⟨w.heap.size + 1 + 1, 0, none⟩) (Nat.le_refl _) _).setCell (p := ⟨w.heap.size + 1 + 1, 1, none⟩) (Nat.le_refl _) _).setCell (p := ⟨w.heap.size + 1 + 1, 2, none⟩) (Nat.le_refl _) _)))
    ((first
      | (go_at_call 68; with_reducible refine (G0 w1 _ _ _ HA.out HD.out).mono ?_; rintro e v1 ⟨rfl, hq1⟩; have p1 := HD.out.trans (hq1.mono HD.out.size); have d1 := (Below.refl w1.drew.heap.size w1.drew).trans (hq1.mono (Below.refl w1.drew.heap.size w1.drew).size); have y1 := zd.below hq1 zd.lt; have hb := d1.mono hz3)
      | (go_at_call 68; with_reducible refine (G1 w1 _ _ _ HA.out p1).mono ?_; rintro e v2 ⟨rfl, hq2⟩; have p2 := p1.trans (hq2.mono p1.size); have d2 := d1.trans (hq2.mono d1.size); have y2 := y1.below hq2 y1.lt; have hb := d2.mono hz3)
      | (go_at_call 73; with_reducible refine (HF _).mono ?_; rintro e v3 ⟨rfl, hq3⟩; have p3 := p2.trans (hq3.mono p2.size); have d3 := d2.trans (hq3.mono d2.size); have y3 := y2.below hq3 y2.lt; have hb := d3.mono hz3; have g0 := y3.cell 0; have g1 := y3.cell 1; have g2 := y3.cell 2; have j0 := y3.free 0; have j1 := y3.free 1; have j2 := y3.free 2)))
  have bk := b1.trans ((show Below w.heap.size w1 w1.drew from (Below.refl _ _).drew).trans (d3.mono (Nat.le_trans b1.size (Nat.le_refl _))))
  go_wp2
  (try simp only [Exit.inBlock, Exit.then]); refine bodyPost_ret_by (results_cell_row1 (by rfl) _ _ (w.heap.size + 1 + 1) _ (by rfl) (load_val (((y3.store 0 _).store 1 _).store 2 _))) ?_ ?_; (focus rfl); refine ⟨rfl, ?_⟩
  (repeat' (first | (with_reducible exact Below.refl _ _) | (with_reducible assumption) | (with_reducible refine Below.alloc ?_ ?_ _) | (with_reducible refine Below.drew ?_) | (with_reducible refine Below.setCell ?_ ?_ _) | (with_reducible refine Below.trans ?_ (Below.mono (by assumption) ?_)) | go_size))
set_option maxRecDepth 100000 in
set_option maxHeartbeats 12800000 in
theorem ev_17 (n k1 k2 : Int) (s nm : ByteArray) (rv : Value) (row l : List Vl) (A : Option Addr) (c : Nat) (w : World) (L2 : Nat) (hR : RdV w L2 w.heap.size rv row) (hl : l.length ≤ 1099511627776)
    (hV : ∀ p ∈ l, vldP p = true) (hwf : wfE 17 n k1 k2 s nm l.length = true)
    (hA : ∀ (W : World) (g h : Nat), Below w.heap.size w W → W.cell? ⟨g, 6, none⟩ = some (.slice A l.length c) → W.cell? ⟨h, 0, none⟩ = some rv → Args W (.pointer (some ⟨g, 0, none⟩)) (.pointer (some ⟨h, 0, none⟩)) l) :
    Calls Try.prog 37 #[.agg #[.int .i64 17, .int .i64 n, .int .i64 k1, .int .i64 k2, .string s, .string nm, .slice A l.length c], rv] w fun e w' => e = .returned (valV (ariP 17 (getP l 0) (getP l 1))) ∧ Below w.heap.size w w' := by
  have HWF := Lib.hid (fun W => by have h := pWf_any 17 n k1 k2 s nm A l.length c W; rw [hwf] at h; exact h)
  have HRV := Lib.hid hR
  have HAA := Lib.hid hA
  obtain ⟨Ar, cr, rfl, _, _⟩ := hR
  clear hA
  have hi0 : 0 < l.length := by have h := wf_lo hwf; have h2 : opLo 17 = 2 := rfl; omega
  have G0 : ∀ (w1 W : World) (P Q : Value), Args w1 P Q l → Below w1.heap.size w1 W → Calls Try.prog 68 #[.int .i64 0, P, Q] W fun e w' => e = .returned (valV (getP l 0)) ∧ Below W.heap.size W w' := fun w1 W P Q h hb => h 0 W hi0 hb
  have hv0 := vld_get l hV 0
  generalize getP l 0 = p0 at *
  obtain ⟨a0, b0, c0⟩ := p0
  have hi1 : 1 < l.length := by have h := wf_lo hwf; have h2 : opLo 17 = 2 := rfl; omega
  have G1 : ∀ (w1 W : World) (P Q : Value), Args w1 P Q l → Below w1.heap.size w1 W → Calls Try.prog 68 #[.int .i64 1, P, Q] W fun e w' => e = .returned (valV (getP l 1)) ∧ Below W.heap.size W w' := fun w1 W P Q h hb => h 1 W hi1 hb
  have hv1 := vld_get l hV 1
  generalize getP l 1 = p1 at *
  obtain ⟨a1, b1, c1⟩ := p1
  have HF := fun W => pAri_any 17 a0 b0 a1 b1 c0 c1 W (fun h => vld_num hv0 h) (fun h => vld_num hv1 h) (by decide)
  generalize ariP 17 (a0, b0, c0) (a1, b1, c1) = r at HF ⊢
  obtain ⟨r1, r2, r3⟩ := r
  unfold valV at *
  dsimp only at *
  clear hwf hV hv0 hv1
  have HE0 := Lib.hid (show Own (((w.alloc (.cells #[.int .i64 17, .int .i64 n, .int .i64 k1, .int .i64 k2, .string s, .string nm, .slice A l.length c] 26)).alloc (.cells #[.slice Ar row.length cr] 33)).alloc (.cells #[.int .i64 0, .int .i64 0, .string ⟨#[]⟩] 23)) w.heap.size 26 #[.int .i64 17, .int .i64 n, .int .i64 k1, .int .i64 k2, .string s, .string nm, .slice A l.length c] from ((Own.new w _ _).alloc _).alloc _)
  have HR0 := Lib.hid (show Own (((w.alloc (.cells #[.int .i64 17, .int .i64 n, .int .i64 k1, .int .i64 k2, .string s, .string nm, .slice A l.length c] 26)).alloc (.cells #[.slice Ar row.length cr] 33)).alloc (.cells #[.int .i64 0, .int .i64 0, .string ⟨#[]⟩] 23)) (w.heap.size + 1) 33 #[.slice Ar row.length cr] from (Va.own_two _).alloc _)
  have HZ0 := Lib.hid (show Own (((w.alloc (.cells #[.int .i64 17, .int .i64 n, .int .i64 k1, .int .i64 k2, .string s, .string nm, .slice A l.length c] 26)).alloc (.cells #[.slice Ar row.length cr] 33)).alloc (.cells #[.int .i64 0, .int .i64 0, .string ⟨#[]⟩] 23)) (w.heap.size + 1 + 1) 23 #[.int .i64 0, .int .i64 0, .string ⟨#[]⟩] from own_three _ _)
  have HB0 := Lib.hid (show Below w.heap.size w (((w.alloc (.cells #[.int .i64 17, .int .i64 n, .int .i64 k1, .int .i64 k2, .string s, .string nm, .slice A l.length c] 26)).alloc (.cells #[.slice Ar row.length cr] 33)).alloc (.cells #[.int .i64 0, .int .i64 0, .string ⟨#[]⟩] 23)) from ((bel_mk w _).trans ((bel_mk _ _).mono (by simp))).trans ((bel_mk _ _).mono (by simp; omega)))
  go_enter Try.func37, Try.ntmps37
  go_wp2_with fail
  with_reducible refine (HWF.out _).mono ?_
  rintro e w1 ⟨rfl, hb1⟩
  have e1 := HE0.out.below hb1 HE0.out.lt
  have f1 := HR0.out.below hb1 HR0.out.lt
  have z1 := HZ0.out.below hb1 HZ0.out.lt
  have b1 := HB0.out.trans (hb1.mono HB0.out.size)
  have a1 := Below.refl w1.heap.size w1
  have HA := Lib.hid (HAA.out w1 w.heap.size (w.heap.size + 1) b1 (e1.cell 6) (f1.cell 0))
  have HR1 := Lib.hid (HRV.out.step b1 (Nat.le_refl _))
  have x0 := e1.cell 0
  have x1 := e1.cell 1
  have x2 := e1.cell 2
  have x3 := e1.cell 3
  have x4 := e1.cell 4
  have x5 := e1.cell 5
  have x6 := e1.cell 6
  have xr := f1.cell 0
  have HE1 := Lib.hid e1
  clear hb1 HE0 HR0 HZ0 HB0 HWF e1 f1
  go_wp2_with fail
  have HS := Lib.hid (show ∀ w', Below (w.heap.size + 1 + 1) w1.drew w' → (Below (w.heap.size + 1 + 1) w1.drew w' ∧ w'.cell? ⟨w.heap.size, 0, none⟩ = some (.int .i64 17)) from fun w' hb => ⟨hb, (hb.cell (p := ⟨w.heap.size, 0, none⟩) (by show w.heap.size < w.heap.size + 1 + 1; omega)).trans x0⟩)
  have hz3 : w.heap.size + 1 + 1 ≤ w1.drew.heap.size := Nat.le_of_lt (show w.heap.size + 1 + 1 < w1.heap.size from z1.lt)
  have HD := Lib.hid (show Below w1.heap.size w1 w1.drew from (Below.refl _ _).drew)
  have zd := (show Own w1.drew (w.heap.size + 1 + 1) 23 #[.int .i64 0, .int .i64 0, .string ⟨#[]⟩] from z1)
  clear x0 x1 x2 x3 x4 x5 x6 xr HE1 HR1
  go_region_held3 (fun w' => Below (w.heap.size + 1 + 1) w1.drew w' ∧ w'.cell? ⟨w.heap.size, 0, none⟩ = some (.int .i64 17))
    (first | (exact HS.out _ (Below.refl _ _)) | (exact HS.out _ hb) | (exact HS.out _ (((hb.setCell (p := ⟨w.heap.size + 1 + 1, 0, none⟩) (Nat.le_refl _) _).setCell (p := ⟨w.heap.size + 1 + 1, 1, none⟩) (Nat.le_refl _) _).setCell (p := ⟨w.heap.size + 1 + 1, 2, none⟩) (Nat.le_refl _) _)))
    ((first
      | (go_at_call 68; with_reducible refine (G0 w1 _ _ _ HA.out HD.out).mono ?_; rintro e v1 ⟨rfl, hq1⟩; have p1 := HD.out.trans (hq1.mono HD.out.size); have d1 := (Below.refl w1.drew.heap.size w1.drew).trans (hq1.mono (Below.refl w1.drew.heap.size w1.drew).size); have y1 := zd.below hq1 zd.lt; have hb := d1.mono hz3)
      | (go_at_call 68; with_reducible refine (G1 w1 _ _ _ HA.out p1).mono ?_; rintro e v2 ⟨rfl, hq2⟩; have p2 := p1.trans (hq2.mono p1.size); have d2 := d1.trans (hq2.mono d1.size); have y2 := y1.below hq2 y1.lt; have hb := d2.mono hz3)
      | (go_at_call 73; with_reducible refine (HF _).mono ?_; rintro e v3 ⟨rfl, hq3⟩; have p3 := p2.trans (hq3.mono p2.size); have d3 := d2.trans (hq3.mono d2.size); have y3 := y2.below hq3 y2.lt; have hb := d3.mono hz3; have g0 := y3.cell 0; have g1 := y3.cell 1; have g2 := y3.cell 2; have j0 := y3.free 0; have j1 := y3.free 1; have j2 := y3.free 2)))
  have bk := b1.trans ((show Below w.heap.size w1 w1.drew from (Below.refl _ _).drew).trans (d3.mono (Nat.le_trans b1.size (Nat.le_refl _))))
  go_wp2
  (try simp only [Exit.inBlock, Exit.then]); refine bodyPost_ret_by (results_cell_row1 (by rfl) _ _ (w.heap.size + 1 + 1) _ (by rfl) (load_val (((y3.store 0 _).store 1 _).store 2 _))) ?_ ?_; (focus rfl); refine ⟨rfl, ?_⟩
  (repeat' (first | (with_reducible exact Below.refl _ _) | (with_reducible assumption) | (with_reducible refine Below.alloc ?_ ?_ _) | (with_reducible refine Below.drew ?_) | (with_reducible refine Below.setCell ?_ ?_ _) | (with_reducible refine Below.trans ?_ (Below.mono (by assumption) ?_)) | go_size))
end Go.Proofs.Ythnmcpfmljibeaa
