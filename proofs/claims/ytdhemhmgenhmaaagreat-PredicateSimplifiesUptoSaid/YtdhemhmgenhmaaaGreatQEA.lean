import Derived.Test.YtdhemhmgenhmaaaGreatQX
import Derived.Test.YtdhemhmgenhmaaaGreatME
import Derived.WalkKit
import Derived.WalkSpells
import Derived.WalkLawsBesides
import Derived.Deep.QuietTactic
import Derived.BigQuiet
import Derived.Handy
import Derived.Lib.Hide
set_option maxRecDepth 100000
set_option maxHeartbeats 25600000
set_option linter.unusedVariables false
set_option linter.unusedSimpArgs false
/-
  The value of an expression, by the program, operator by operator. Conditions: lengths, values of rows are read.
-/
namespace Go.Proofs.YtdhemhmgenhmaaaGreat
open Go.RowKit
def EvC (op : Int) (f : Int → Int → Int → ByteArray → ByteArray → List Vl → List Vl → Vl) : Prop :=
 ∀ (n k1 k2 : Int) (s nm : ByteArray) (rv : Value) (row l : List Vl) (A : Option Addr) (c : Nat) (w : World) (L2 : Nat), RdV w L2 w.heap.size rv row → l.length ≤ 1099511627776 →
  (∀ p ∈ l, vldP p = true) → wfE op n k1 k2 s nm l.length = true →
  (∀ (W : World) (g h : Nat), Below w.heap.size w W → W.cell? ⟨g, 6, none⟩ = some (.slice A l.length c) → W.cell? ⟨h, 0, none⟩ = some rv → Args W (.pointer (some ⟨g, 0, none⟩)) (.pointer (some ⟨h, 0, none⟩)) l) →
  Calls Tryz.prog 15 #[.agg #[.int .i64 op, .int .i64 n, .int .i64 k1, .int .i64 k2, .string s, .string nm, .slice A l.length c], rv] w fun e w' => e = .returned (valV (f n k1 k2 s nm row l)) ∧ Below w.heap.size w w'
theorem evG (l : List Vl) (i : Nat) (z : Int) (hz : z = i) (hi : i < l.length) (w1 W : World) (P Q : Value) (h : Args w1 P Q l) (hb : Below w1.heap.size w1 W) : Calls Tryz.prog 49 #[.int .i64 z, P, Q] W fun e w' => e = .returned (valV (getP l i)) ∧ Below W.heap.size W w' := hz ▸ h i W hi hb
theorem evIn {w W w1 : World} {g : Nat} {t u v : TypeId} {y0 y1 y2 y3 y4 y5 y6 r : Value} {cs : Array Value} (h : Hid (Own W g t #[y0, y1, y2, y3, y4, y5, y6])) (h2 : Hid (Own W (g + 1) u #[r])) (h3 : Hid (Own W (g + 1 + 1) v cs)) (hB : Hid (Below w.heap.size w W)) (hb : Below W.heap.size W w1) :
  Hid (Own w1 g t #[y0, y1, y2, y3, y4, y5, y6]) ∧ Own w1 (g + 1 + 1) v cs ∧ Below w.heap.size w w1 ∧ w1.cell? ⟨g, 0, none⟩ = some y0 ∧ w1.cell? ⟨g, 1, none⟩ = some y1 ∧ w1.cell? ⟨g, 2, none⟩ = some y2 ∧ w1.cell? ⟨g, 3, none⟩ = some y3 ∧ w1.cell? ⟨g, 4, none⟩ = some y4 ∧ w1.cell? ⟨g, 5, none⟩ = some y5 ∧ w1.cell? ⟨g, 6, none⟩ = some y6 ∧ w1.cell? ⟨g + 1, 0, none⟩ = some r :=
 ⟨blw h hb, blw h3 hb, btr hB hb, (blw h hb).out.cell 0, (blw h hb).out.cell 1, (blw h hb).out.cell 2, (blw h hb).out.cell 3, (blw h hb).out.cell 4, (blw h hb).out.cell 5, (blw h hb).out.cell 6, (blw h2 hb).out.cell 0⟩
theorem evT {w w1 w2 : World} (h : Below w.heap.size w w1) (hb : Below w1.heap.size w1 w2) : Below w.heap.size w w2 := h.trans (hb.mono h.size)
theorem evS {w1 : World} {g : Nat} {v : Value} (x0 : w1.cell? ⟨g, 0, none⟩ = some v) (w' : World) (hb : Below (g + 1 + 1) w1.drew w') : Below (g + 1 + 1) w1.drew w' ∧ w'.cell? ⟨g, 0, none⟩ = some v :=
 ⟨hb, (hb.cell (p := ⟨g, 0, none⟩) (by show g < g + 1 + 1; omega)).trans x0⟩
theorem evD {w1 : World} {g : Nat} {t : TypeId} {cs : Array Value} (z : Own w1 g t cs) : g ≤ w1.drew.heap.size ∧ Hid (Below w1.heap.size w1 w1.drew) ∧ Own w1.drew g t cs :=
 ⟨Nat.le_of_lt z.lt, (Below.refl _ _).drew, z⟩
theorem evK {w w1 w2 : World} (b : Below w.heap.size w w1) (d : Below w1.drew.heap.size w1.drew w2) : Below w.heap.size w w2 :=
 b.trans ((show Below w.heap.size w1 w1.drew from (Below.refl _ _).drew).trans (d.mono b.size))
theorem wf_lo {op n k m : Int} {s nm : ByteArray} {l : Nat} (h : wfE op n k m s nm l = true) : opLo op ≤ l := by
 unfold wfE at h
 simp only [Bool.and_eq_true, decide_eq_true_eq] at h
 exact h.1.1.2
theorem ev_const : EvC 1 fun _ k1 k2 s _ _ _ => (k1, k2, s) := by
 intro n k1 k2 s nm rv row l A c w L2 hR hl hV hwf hA
 dsimp only
 have HWF := Lib.hid (fun W => by have h := pWf_any 1 n k1 k2 s nm A l.length c W; rw [hwf] at h; exact h)
 have HRV := Lib.hid hR
 have HAA := Lib.hid hA
 obtain ⟨Ar, cr, rfl, _, _⟩ := hR
 clear hA
 unfold valV
 dsimp only
 obtain ⟨HE0, HR0, HZ0, HB0⟩ := bx3 w 26 #[.int .i64 1, .int .i64 n, .int .i64 k1, .int .i64 k2, .string s, .string nm, .slice A l.length c] 27 #[.slice Ar row.length cr] 23 #[.int .i64 0, .int .i64 0, .string ⟨#[]⟩]
 go_enter Tryz.func15, Tryz.ntmps15
 go_wp2_with fail
 with_reducible refine (HWF.out _).mono ?_
 rintro e w1 ⟨rfl, hb1⟩
 obtain ⟨HE1, z1, b1, x0, x1, x2, x3, x4, x5, x6, xr⟩ := evIn HE0 HR0 HZ0 HB0 hb1
 have a1 := Below.refl w1.heap.size w1
 have HA := Lib.hid (HAA.out w1 w.heap.size (w.heap.size + 1) b1 x6 xr)
 have HR1 := Lib.hid (HRV.out.step b1 (Nat.le_refl _))
 clear hb1 HE0 HR0 HZ0 HB0 HWF
 have d0 := z1.cell 0; have e0 := z1.free 0; have d1 := z1.cell 1; have e1 := z1.free 1; have d2 := z1.cell 2; have e2 := z1.free 2; (try simp only [List.getElem?_toArray, List.getElem?_cons_zero, List.getElem?_cons_succ] at d0 d1 d2)
 go_wp2
 (try simp only [Exit.inBlock, Exit.then]); refine bodyPost_ret_by (results_cell_row1 (by rfl) _ _ (w.heap.size + 1 + 1) _ (by rfl) (load_val (((z1.store 0 _).store 1 _).store 2 _))) ?_ ?_; (focus rfl); refine ⟨rfl, ?_⟩
 (repeat' first | (with_reducible first | exact Below.refl _ _ | assumption | refine Below.alloc ?_ ?_ _ | refine Below.drew ?_ | refine Below.setCell ?_ ?_ _ | refine Below.trans ?_ (Below.mono (by assumption) ?_)) | go_size)
theorem ev_col : EvC 2 fun n _ _ _ _ row _ => colP row n := by
 intro n k1 k2 s nm rv row l A c w L2 hR hl hV hwf hA
 dsimp only
 have HWF := Lib.hid (fun W => by have h := pWf_any 2 n k1 k2 s nm A l.length c W; rw [hwf] at h; exact h)
 have HRV := Lib.hid hR
 have HAA := Lib.hid hA
 obtain ⟨Ar, cr, rfl, _, _⟩ := hR
 clear hA
 have HF := fun W => (fun (u : Value) (L : Nat) (h : RdV W L W.heap.size u row) => pColumn_any u row n W L h)
 generalize colP row n = r at HF ⊢
 obtain ⟨r1, r2, r3⟩ := r
 unfold valV at *
 dsimp only at *
 obtain ⟨HE0, HR0, HZ0, HB0⟩ := bx3 w 26 #[.int .i64 2, .int .i64 n, .int .i64 k1, .int .i64 k2, .string s, .string nm, .slice A l.length c] 27 #[.slice Ar row.length cr] 23 #[.int .i64 0, .int .i64 0, .string ⟨#[]⟩]
 go_enter Tryz.func15, Tryz.ntmps15
 go_wp2_with fail
 with_reducible refine (HWF.out _).mono ?_
 rintro e w1 ⟨rfl, hb1⟩
 obtain ⟨HE1, z1, b1, x0, x1, x2, x3, x4, x5, x6, xr⟩ := evIn HE0 HR0 HZ0 HB0 hb1
 have a1 := Below.refl w1.heap.size w1
 have HA := Lib.hid (HAA.out w1 w.heap.size (w.heap.size + 1) b1 x6 xr)
 have HR1 := Lib.hid (HRV.out.step b1 (Nat.le_refl _))
 clear hb1 HE0 HR0 HZ0 HB0 HWF
 go_wp2_with fail
 with_reducible refine (HF _ _ _ HR1.out).mono ?_
 rintro e w2 ⟨rfl, hb2⟩
 have z2 : Own _ _ _ _ := blw z1 hb2
 have b2 := evT b1 hb2
 have a2 := evT a1 hb2
 clear hb2
 have d0 := z2.cell 0; have e0 := z2.free 0; have d1 := z2.cell 1; have e1 := z2.free 1; have d2 := z2.cell 2; have e2 := z2.free 2; (try simp only [List.getElem?_toArray, List.getElem?_cons_zero, List.getElem?_cons_succ] at d0 d1 d2)
 go_wp2
 (try simp only [Exit.inBlock, Exit.then]); refine bodyPost_ret_by (results_cell_row1 (by rfl) _ _ (w.heap.size + 1 + 1) _ (by rfl) (load_val (((z2.store 0 _).store 1 _).store 2 _))) ?_ ?_; (focus rfl); refine ⟨rfl, ?_⟩
 (repeat' first | (with_reducible first | exact Below.refl _ _ | assumption | refine Below.alloc ?_ ?_ _ | refine Below.drew ?_ | refine Below.setCell ?_ ?_ _ | refine Below.trans ?_ (Below.mono (by assumption) ?_)) | go_size)
theorem ev_neg : EvC 18 fun _ _ _ _ _ _ l => ariP 14 (intP 0) (getP l 0) := by
 intro n k1 k2 s nm rv row l A c w L2 hR hl hV hwf hA
 dsimp only
 have HWF := Lib.hid (fun W => by have h := pWf_any 18 n k1 k2 s nm A l.length c W; rw [hwf] at h; exact h)
 have HRV := Lib.hid hR
 have HAA := Lib.hid hA
 obtain ⟨Ar, cr, rfl, _, _⟩ := hR
 clear hA
 have G0 := evG l 0 0 rfl (by have h := wf_lo hwf; have h2 : opLo 18 = 1 := rfl; omega)
 have hv0 := vld_get l hV 0
 generalize getP l 0 = p0 at *
 obtain ⟨a0, b0, c0⟩ := p0
 have HI := fun W => eInt 0 W
 have hvI := vld_nrm (1, 0, ⟨#[]⟩)
 change vldP (intP 0) = true at hvI
 generalize intP 0 = q at *
 obtain ⟨q0, q1, q2⟩ := q
 have HF := fun W => pAri_any 14 q0 q1 a0 b0 q2 c0 W (fun h => vld_num hvI h) (fun h => vld_num hv0 h) (.inr (.inl rfl))
 generalize ariP 14 (q0, q1, q2) (a0, b0, c0) = r at HF ⊢
 obtain ⟨r1, r2, r3⟩ := r
 unfold valV at *
 dsimp only at *
 obtain ⟨HE0, HR0, HZ0, HB0⟩ := bx3 w 26 #[.int .i64 18, .int .i64 n, .int .i64 k1, .int .i64 k2, .string s, .string nm, .slice A l.length c] 27 #[.slice Ar row.length cr] 23 #[.int .i64 0, .int .i64 0, .string ⟨#[]⟩]
 go_enter Tryz.func15, Tryz.ntmps15
 go_wp2_with fail
 with_reducible refine (HWF.out _).mono ?_
 rintro e w1 ⟨rfl, hb1⟩
 obtain ⟨HE1, z1, b1, x0, x1, x2, x3, x4, x5, x6, xr⟩ := evIn HE0 HR0 HZ0 HB0 hb1
 have a1 := Below.refl w1.heap.size w1
 have HA := Lib.hid (HAA.out w1 w.heap.size (w.heap.size + 1) b1 x6 xr)
 have HR1 := Lib.hid (HRV.out.step b1 (Nat.le_refl _))
 clear hb1 HE0 HR0 HZ0 HB0 HWF
 go_wp2_with fail
 with_reducible refine (HI _).mono ?_
 rintro e w2 ⟨rfl, hb2⟩
 have z2 : Own _ _ _ _ := blw z1 hb2
 have b2 := evT b1 hb2
 have a2 := evT a1 hb2
 clear hb2
 go_wp2_with fail
 with_reducible refine (G0 w1 _ _ _ HA.out a2).mono ?_
 rintro e w3 ⟨rfl, hb3⟩
 have z3 : Own _ _ _ _ := blw z2 hb3
 have b3 := evT b2 hb3
 have a3 := evT a2 hb3
 clear hb3
 go_wp2_with fail
 with_reducible refine (HF _).mono ?_
 rintro e w4 ⟨rfl, hb4⟩
 have z4 : Own _ _ _ _ := blw z3 hb4
 have b4 := evT b3 hb4
 have a4 := evT a3 hb4
 clear hb4
 have d0 := z4.cell 0; have e0 := z4.free 0; have d1 := z4.cell 1; have e1 := z4.free 1; have d2 := z4.cell 2; have e2 := z4.free 2; (try simp only [List.getElem?_toArray, List.getElem?_cons_zero, List.getElem?_cons_succ] at d0 d1 d2)
 go_wp2
 (try simp only [Exit.inBlock, Exit.then]); refine bodyPost_ret_by (results_cell_row1 (by rfl) _ _ (w.heap.size + 1 + 1) _ (by rfl) (load_val (((z4.store 0 _).store 1 _).store 2 _))) ?_ ?_; (focus rfl); refine ⟨rfl, ?_⟩
 (repeat' first | (with_reducible first | exact Below.refl _ _ | assumption | refine Below.alloc ?_ ?_ _ | refine Below.drew ?_ | refine Below.setCell ?_ ?_ _ | refine Below.trans ?_ (Below.mono (by assumption) ?_)) | go_size)
theorem ev_cat : EvC 19 fun _ _ _ _ _ _ l => catP (getP l 0) (getP l 1) := by
 intro n k1 k2 s nm rv row l A c w L2 hR hl hV hwf hA
 dsimp only
 have HWF := Lib.hid (fun W => by have h := pWf_any 19 n k1 k2 s nm A l.length c W; rw [hwf] at h; exact h)
 have HRV := Lib.hid hR
 have HAA := Lib.hid hA
 obtain ⟨Ar, cr, rfl, _, _⟩ := hR
 clear hA
 have G0 := evG l 0 0 rfl (by have h := wf_lo hwf; have h2 : opLo 19 = 2 := rfl; omega)
 have hv0 := vld_get l hV 0
 generalize getP l 0 = p0 at *
 obtain ⟨a0, b0, c0⟩ := p0
 have G1 := evG l 1 1 rfl (by have h := wf_lo hwf; have h2 : opLo 19 = 2 := rfl; omega)
 have hv1 := vld_get l hV 1
 generalize getP l 1 = p1 at *
 obtain ⟨a1, b1, c1⟩ := p1
 have HF := fun W => pConcat_any a0 b0 c0 a1 b1 c1 W (vld_len hv0) (vld_len hv1)
 generalize catP (a0, b0, c0) (a1, b1, c1) = r at HF ⊢
 obtain ⟨r1, r2, r3⟩ := r
 unfold valV at *
 dsimp only at *
 obtain ⟨HE0, HR0, HZ0, HB0⟩ := bx3 w 26 #[.int .i64 19, .int .i64 n, .int .i64 k1, .int .i64 k2, .string s, .string nm, .slice A l.length c] 27 #[.slice Ar row.length cr] 23 #[.int .i64 0, .int .i64 0, .string ⟨#[]⟩]
 go_enter Tryz.func15, Tryz.ntmps15
 go_wp2_with fail
 with_reducible refine (HWF.out _).mono ?_
 rintro e w1 ⟨rfl, hb1⟩
 obtain ⟨HE1, z1, b1, x0, x1, x2, x3, x4, x5, x6, xr⟩ := evIn HE0 HR0 HZ0 HB0 hb1
 have a1 := Below.refl w1.heap.size w1
 have HA := Lib.hid (HAA.out w1 w.heap.size (w.heap.size + 1) b1 x6 xr)
 have HR1 := Lib.hid (HRV.out.step b1 (Nat.le_refl _))
 clear hb1 HE0 HR0 HZ0 HB0 HWF
 go_wp2_with fail
 with_reducible refine (G0 w1 _ _ _ HA.out a1).mono ?_
 rintro e w2 ⟨rfl, hb2⟩
 have z2 : Own _ _ _ _ := blw z1 hb2
 have b2 := evT b1 hb2
 have a2 := evT a1 hb2
 clear hb2
 go_wp2_with fail
 with_reducible refine (G1 w1 _ _ _ HA.out a2).mono ?_
 rintro e w3 ⟨rfl, hb3⟩
 have z3 : Own _ _ _ _ := blw z2 hb3
 have b3 := evT b2 hb3
 have a3 := evT a2 hb3
 clear hb3
 go_wp2_with fail
 with_reducible refine (HF _).mono ?_
 rintro e w4 ⟨rfl, hb4⟩
 have z4 : Own _ _ _ _ := blw z3 hb4
 have b4 := evT b3 hb4
 have a4 := evT a3 hb4
 clear hb4
 have d0 := z4.cell 0; have e0 := z4.free 0; have d1 := z4.cell 1; have e1 := z4.free 1; have d2 := z4.cell 2; have e2 := z4.free 2; (try simp only [List.getElem?_toArray, List.getElem?_cons_zero, List.getElem?_cons_succ] at d0 d1 d2)
 go_wp2
 (try simp only [Exit.inBlock, Exit.then]); refine bodyPost_ret_by (results_cell_row1 (by rfl) _ _ (w.heap.size + 1 + 1) _ (by rfl) (load_val (((z4.store 0 _).store 1 _).store 2 _))) ?_ ?_; (focus rfl); refine ⟨rfl, ?_⟩
 (repeat' first | (with_reducible first | exact Below.refl _ _ | assumption | refine Below.alloc ?_ ?_ _ | refine Below.drew ?_ | refine Below.setCell ?_ ?_ _ | refine Below.trans ?_ (Below.mono (by assumption) ?_)) | go_size)
theorem ev_len : EvC 20 fun _ _ _ _ _ _ l => lenP (getP l 0) := by
 intro n k1 k2 s nm rv row l A c w L2 hR hl hV hwf hA
 dsimp only
 have HWF := Lib.hid (fun W => by have h := pWf_any 20 n k1 k2 s nm A l.length c W; rw [hwf] at h; exact h)
 have HRV := Lib.hid hR
 have HAA := Lib.hid hA
 obtain ⟨Ar, cr, rfl, _, _⟩ := hR
 clear hA
 have G0 := evG l 0 0 rfl (by have h := wf_lo hwf; have h2 : opLo 20 = 1 := rfl; omega)
 have hv0 := vld_get l hV 0
 generalize getP l 0 = p0 at *
 obtain ⟨a0, b0, c0⟩ := p0
 have HF := fun W => pLength_any a0 b0 c0 W
 generalize lenP (a0, b0, c0) = r at HF ⊢
 obtain ⟨r1, r2, r3⟩ := r
 unfold valV at *
 dsimp only at *
 obtain ⟨HE0, HR0, HZ0, HB0⟩ := bx3 w 26 #[.int .i64 20, .int .i64 n, .int .i64 k1, .int .i64 k2, .string s, .string nm, .slice A l.length c] 27 #[.slice Ar row.length cr] 23 #[.int .i64 0, .int .i64 0, .string ⟨#[]⟩]
 go_enter Tryz.func15, Tryz.ntmps15
 go_wp2_with fail
 with_reducible refine (HWF.out _).mono ?_
 rintro e w1 ⟨rfl, hb1⟩
 obtain ⟨HE1, z1, b1, x0, x1, x2, x3, x4, x5, x6, xr⟩ := evIn HE0 HR0 HZ0 HB0 hb1
 have a1 := Below.refl w1.heap.size w1
 have HA := Lib.hid (HAA.out w1 w.heap.size (w.heap.size + 1) b1 x6 xr)
 have HR1 := Lib.hid (HRV.out.step b1 (Nat.le_refl _))
 clear hb1 HE0 HR0 HZ0 HB0 HWF
 go_wp2_with fail
 with_reducible refine (G0 w1 _ _ _ HA.out a1).mono ?_
 rintro e w2 ⟨rfl, hb2⟩
 have z2 : Own _ _ _ _ := blw z1 hb2
 have b2 := evT b1 hb2
 have a2 := evT a1 hb2
 clear hb2
 go_wp2_with fail
 with_reducible refine (HF _).mono ?_
 rintro e w3 ⟨rfl, hb3⟩
 have z3 : Own _ _ _ _ := blw z2 hb3
 have b3 := evT b2 hb3
 have a3 := evT a2 hb3
 clear hb3
 have d0 := z3.cell 0; have e0 := z3.free 0; have d1 := z3.cell 1; have e1 := z3.free 1; have d2 := z3.cell 2; have e2 := z3.free 2; (try simp only [List.getElem?_toArray, List.getElem?_cons_zero, List.getElem?_cons_succ] at d0 d1 d2)
 go_wp2
 (try simp only [Exit.inBlock, Exit.then]); refine bodyPost_ret_by (results_cell_row1 (by rfl) _ _ (w.heap.size + 1 + 1) _ (by rfl) (load_val (((z3.store 0 _).store 1 _).store 2 _))) ?_ ?_; (focus rfl); refine ⟨rfl, ?_⟩
 (repeat' first | (with_reducible first | exact Below.refl _ _ | assumption | refine Below.alloc ?_ ?_ _ | refine Below.drew ?_ | refine Below.setCell ?_ ?_ _ | refine Below.trans ?_ (Below.mono (by assumption) ?_)) | go_size)
theorem ev_null : EvC 21 fun _ _ _ _ _ _ l => booP ((getP l 0).1 == 0) := by
 intro n k1 k2 s nm rv row l A c w L2 hR hl hV hwf hA
 dsimp only
 have HWF := Lib.hid (fun W => by have h := pWf_any 21 n k1 k2 s nm A l.length c W; rw [hwf] at h; exact h)
 have HRV := Lib.hid hR
 have HAA := Lib.hid hA
 obtain ⟨Ar, cr, rfl, _, _⟩ := hR
 clear hA
 have G0 := evG l 0 0 rfl (by have h := wf_lo hwf; have h2 : opLo 21 = 1 := rfl; omega)
 have hv0 := vld_get l hV 0
 generalize getP l 0 = p0 at *
 obtain ⟨a0, b0, c0⟩ := p0
 have HI := fun W => pIsNull_any a0 b0 c0 W
 have HF := fun W => eBool (a0 == 0) W
 generalize booP (((a0, b0, c0) : Vl).1 == 0) = r at HF ⊢
 obtain ⟨r1, r2, r3⟩ := r
 unfold valV at *
 dsimp only at *
 obtain ⟨HE0, HR0, HZ0, HB0⟩ := bx3 w 26 #[.int .i64 21, .int .i64 n, .int .i64 k1, .int .i64 k2, .string s, .string nm, .slice A l.length c] 27 #[.slice Ar row.length cr] 23 #[.int .i64 0, .int .i64 0, .string ⟨#[]⟩]
 go_enter Tryz.func15, Tryz.ntmps15
 go_wp2_with fail
 with_reducible refine (HWF.out _).mono ?_
 rintro e w1 ⟨rfl, hb1⟩
 obtain ⟨HE1, z1, b1, x0, x1, x2, x3, x4, x5, x6, xr⟩ := evIn HE0 HR0 HZ0 HB0 hb1
 have a1 := Below.refl w1.heap.size w1
 have HA := Lib.hid (HAA.out w1 w.heap.size (w.heap.size + 1) b1 x6 xr)
 have HR1 := Lib.hid (HRV.out.step b1 (Nat.le_refl _))
 clear hb1 HE0 HR0 HZ0 HB0 HWF
 go_wp2_with fail
 with_reducible refine (G0 w1 _ _ _ HA.out a1).mono ?_
 rintro e w2 ⟨rfl, hb2⟩
 have z2 : Own _ _ _ _ := blw z1 hb2
 have b2 := evT b1 hb2
 have a2 := evT a1 hb2
 clear hb2
 go_wp2_with fail
 with_reducible refine (HI _).mono ?_
 rintro e w3 ⟨rfl, hb3⟩
 have z3 : Own _ _ _ _ := blw z2 hb3
 have b3 := evT b2 hb3
 have a3 := evT a2 hb3
 clear hb3
 go_wp2_with fail
 with_reducible refine (HF _).mono ?_
 rintro e w4 ⟨rfl, hb4⟩
 have z4 : Own _ _ _ _ := blw z3 hb4
 have b4 := evT b3 hb4
 have a4 := evT a3 hb4
 clear hb4
 have d0 := z4.cell 0; have e0 := z4.free 0; have d1 := z4.cell 1; have e1 := z4.free 1; have d2 := z4.cell 2; have e2 := z4.free 2; (try simp only [List.getElem?_toArray, List.getElem?_cons_zero, List.getElem?_cons_succ] at d0 d1 d2)
 go_wp2
 (try simp only [Exit.inBlock, Exit.then]); refine bodyPost_ret_by (results_cell_row1 (by rfl) _ _ (w.heap.size + 1 + 1) _ (by rfl) (load_val (((z4.store 0 _).store 1 _).store 2 _))) ?_ ?_; (focus rfl); refine ⟨rfl, ?_⟩
 (repeat' first | (with_reducible first | exact Below.refl _ _ | assumption | refine Below.alloc ?_ ?_ _ | refine Below.drew ?_ | refine Below.setCell ?_ ?_ _ | refine Below.trans ?_ (Below.mono (by assumption) ?_)) | go_size)
end Go.Proofs.YtdhemhmgenhmaaaGreat
