import Derived.Test.YtdhemhmgenhmaaaGreatQEA
import Derived.Test.YtdhemhmgenhmaaaGreatME
import Derived.WalkKit
import Derived.WalkSpells
import Derived.WalkLawsBesides
import Derived.Deep.QuietTactic
import Derived.BigQuiet
import Derived.Handy
import Derived.Lib.Hide
set_option maxRecDepth 100000
set_option maxHeartbeats 25600000
set_option linter.unusedVariables false
set_option linter.unusedSimpArgs false
/-
  The value of an expression, by the program, operator by operator. Conditions: lengths, values of rows are read.
-/
namespace Go.Proofs.YtdhemhmgenhmaaaGreat
open Go.RowKit
theorem ev_log (op : Int) (hop : op = 4 ∨ op = 5 ∨ op = 6) : EvC op fun _ _ _ _ _ _ l => ofP (logP op l) := by
 intro n k1 k2 s nm rv row l A c w L2 hR hl hV hwf hA
 dsimp only
 have HWF := Lib.hid (fun W => by have h := pWf_any op n k1 k2 s nm A l.length c W; rw [hwf] at h; exact h)
 have HRV := Lib.hid hR
 have HAA := Lib.hid hA
 obtain ⟨Ar, cr, rfl, _, _⟩ := hR
 clear hA
 have h1 : 1 ≤ l.length := by
  have h := wf_lo hwf
  have h2 : 1 ≤ opLo op := by rcases hop with rfl | rfl | rfl <;> decide
  omega
 have HL := fun (P Q : Addr) (W : World) (h : Args W (.pointer (some P)) (.pointer (some Q)) l) => pLogic_any op n k1 k2 s nm A c l P Q W h hl h1 hop
 generalize logP op l = t at *
 have HF := fun W => eOf t W
 generalize ofP t = r at HF ⊢
 obtain ⟨r1, r2, r3⟩ := r
 unfold valV at *
 dsimp only at *
 clear hwf hV
 rcases hop with rfl | rfl | rfl
 ·obtain ⟨HE0, HR0, HZ0, HB0⟩ := bx3 w 26 #[.int .i64 4, .int .i64 n, .int .i64 k1, .int .i64 k2, .string s, .string nm, .slice A l.length c] 27 #[.slice Ar row.length cr] 23 #[.int .i64 0, .int .i64 0, .string ⟨#[]⟩]
  go_enter Tryz.func15, Tryz.ntmps15
  go_wp2_with fail
  with_reducible refine (HWF.out _).mono ?_
  rintro e w1 ⟨rfl, hb1⟩
  obtain ⟨HE1, z1, b1, x0, x1, x2, x3, x4, x5, x6, xr⟩ := evIn HE0 HR0 HZ0 HB0 hb1
  have a1 := Below.refl w1.heap.size w1
  have HA := Lib.hid (HAA.out w1 w.heap.size (w.heap.size + 1) b1 x6 xr)
  have HR1 := Lib.hid (HRV.out.step b1 (Nat.le_refl _))
  clear hb1 HE0 HR0 HZ0 HB0 HWF
  go_wp2_with fail
  with_reducible refine (HL _ _ _ (HA.out.later a1)).mono ?_
  rintro e w2 ⟨rfl, hb2⟩
  have z2 : Own _ _ _ _ := blw z1 hb2
  have b2 := evT b1 hb2
  have a2 := evT a1 hb2
  clear hb2
  go_wp2_with fail
  with_reducible refine (HF _).mono ?_
  rintro e w3 ⟨rfl, hb3⟩
  have z3 : Own _ _ _ _ := blw z2 hb3
  have b3 := evT b2 hb3
  have a3 := evT a2 hb3
  clear hb3
  have d0 := z3.cell 0; have e0 := z3.free 0; have d1 := z3.cell 1; have e1 := z3.free 1; have d2 := z3.cell 2; have e2 := z3.free 2; (try simp only [List.getElem?_toArray, List.getElem?_cons_zero, List.getElem?_cons_succ] at d0 d1 d2)
  go_wp2
  (try simp only [Exit.inBlock, Exit.then]); refine bodyPost_ret_by (results_cell_row1 (by rfl) _ _ (w.heap.size + 1 + 1) _ (by rfl) (load_val (((z3.store 0 _).store 1 _).store 2 _))) ?_ ?_; (focus rfl); refine ⟨rfl, ?_⟩
  (repeat' first | (with_reducible first | exact Below.refl _ _ | assumption | refine Below.alloc ?_ ?_ _ | refine Below.drew ?_ | refine Below.setCell ?_ ?_ _ | refine Below.trans ?_ (Below.mono (by assumption) ?_)) | go_size)
 ·obtain ⟨HE0, HR0, HZ0, HB0⟩ := bx3 w 26 #[.int .i64 5, .int .i64 n, .int .i64 k1, .int .i64 k2, .string s, .string nm, .slice A l.length c] 27 #[.slice Ar row.length cr] 23 #[.int .i64 0, .int .i64 0, .string ⟨#[]⟩]
  go_enter Tryz.func15, Tryz.ntmps15
  go_wp2_with fail
  with_reducible refine (HWF.out _).mono ?_
  rintro e w1 ⟨rfl, hb1⟩
  obtain ⟨HE1, z1, b1, x0, x1, x2, x3, x4, x5, x6, xr⟩ := evIn HE0 HR0 HZ0 HB0 hb1
  have a1 := Below.refl w1.heap.size w1
  have HA := Lib.hid (HAA.out w1 w.heap.size (w.heap.size + 1) b1 x6 xr)
  have HR1 := Lib.hid (HRV.out.step b1 (Nat.le_refl _))
  clear hb1 HE0 HR0 HZ0 HB0 HWF
  go_wp2_with fail
  with_reducible refine (HL _ _ _ (HA.out.later a1)).mono ?_
  rintro e w2 ⟨rfl, hb2⟩
  have z2 : Own _ _ _ _ := blw z1 hb2
  have b2 := evT b1 hb2
  have a2 := evT a1 hb2
  clear hb2
  go_wp2_with fail
  with_reducible refine (HF _).mono ?_
  rintro e w3 ⟨rfl, hb3⟩
  have z3 : Own _ _ _ _ := blw z2 hb3
  have b3 := evT b2 hb3
  have a3 := evT a2 hb3
  clear hb3
  have d0 := z3.cell 0; have e0 := z3.free 0; have d1 := z3.cell 1; have e1 := z3.free 1; have d2 := z3.cell 2; have e2 := z3.free 2; (try simp only [List.getElem?_toArray, List.getElem?_cons_zero, List.getElem?_cons_succ] at d0 d1 d2)
  go_wp2
  (try simp only [Exit.inBlock, Exit.then]); refine bodyPost_ret_by (results_cell_row1 (by rfl) _ _ (w.heap.size + 1 + 1) _ (by rfl) (load_val (((z3.store 0 _).store 1 _).store 2 _))) ?_ ?_; (focus rfl); refine ⟨rfl, ?_⟩
  (repeat' first | (with_reducible first | exact Below.refl _ _ | assumption | refine Below.alloc ?_ ?_ _ | refine Below.drew ?_ | refine Below.setCell ?_ ?_ _ | refine Below.trans ?_ (Below.mono (by assumption) ?_)) | go_size)
 ·obtain ⟨HE0, HR0, HZ0, HB0⟩ := bx3 w 26 #[.int .i64 6, .int .i64 n, .int .i64 k1, .int .i64 k2, .string s, .string nm, .slice A l.length c] 27 #[.slice Ar row.length cr] 23 #[.int .i64 0, .int .i64 0, .string ⟨#[]⟩]
  go_enter Tryz.func15, Tryz.ntmps15
  go_wp2_with fail
  with_reducible refine (HWF.out _).mono ?_
  rintro e w1 ⟨rfl, hb1⟩
  obtain ⟨HE1, z1, b1, x0, x1, x2, x3, x4, x5, x6, xr⟩ := evIn HE0 HR0 HZ0 HB0 hb1
  have a1 := Below.refl w1.heap.size w1
  have HA := Lib.hid (HAA.out w1 w.heap.size (w.heap.size + 1) b1 x6 xr)
  have HR1 := Lib.hid (HRV.out.step b1 (Nat.le_refl _))
  clear hb1 HE0 HR0 HZ0 HB0 HWF
  go_wp2_with fail
  with_reducible refine (HL _ _ _ (HA.out.later a1)).mono ?_
  rintro e w2 ⟨rfl, hb2⟩
  have z2 : Own _ _ _ _ := blw z1 hb2
  have b2 := evT b1 hb2
  have a2 := evT a1 hb2
  clear hb2
  go_wp2_with fail
  with_reducible refine (HF _).mono ?_
  rintro e w3 ⟨rfl, hb3⟩
  have z3 : Own _ _ _ _ := blw z2 hb3
  have b3 := evT b2 hb3
  have a3 := evT a2 hb3
  clear hb3
  have d0 := z3.cell 0; have e0 := z3.free 0; have d1 := z3.cell 1; have e1 := z3.free 1; have d2 := z3.cell 2; have e2 := z3.free 2; (try simp only [List.getElem?_toArray, List.getElem?_cons_zero, List.getElem?_cons_succ] at d0 d1 d2)
  go_wp2
  (try simp only [Exit.inBlock, Exit.then]); refine bodyPost_ret_by (results_cell_row1 (by rfl) _ _ (w.heap.size + 1 + 1) _ (by rfl) (load_val (((z3.store 0 _).store 1 _).store 2 _))) ?_ ?_; (focus rfl); refine ⟨rfl, ?_⟩
  (repeat' first | (with_reducible first | exact Below.refl _ _ | assumption | refine Below.alloc ?_ ?_ _ | refine Below.drew ?_ | refine Below.setCell ?_ ?_ _ | refine Below.trans ?_ (Below.mono (by assumption) ?_)) | go_size)
theorem ev_if : EvC 22 fun _ _ _ _ _ _ l => if truP (getP l 0) = 2 then getP l 1 else getP l 2 := by
 intro n k1 k2 s nm rv row l A c w L2 hR hl hV hwf hA
 dsimp only
 have HWF := Lib.hid (fun W => by have h := pWf_any 22 n k1 k2 s nm A l.length c W; rw [hwf] at h; exact h)
 have HRV := Lib.hid hR
 have HAA := Lib.hid hA
 obtain ⟨Ar, cr, rfl, _, _⟩ := hR
 clear hA
 have G0 := evG l 0 0 rfl (by have h := wf_lo hwf; have h2 : opLo 22 = 3 := rfl; omega)
 have hv0 := vld_get l hV 0
 generalize getP l 0 = p0 at *
 obtain ⟨a0, b0, c0⟩ := p0
 have G1 := evG l 1 1 rfl (by have h := wf_lo hwf; have h2 : opLo 22 = 3 := rfl; omega)
 have hv1 := vld_get l hV 1
 generalize getP l 1 = p1 at *
 obtain ⟨a1, b1, c1⟩ := p1
 have G2 := evG l 2 2 rfl (by have h := wf_lo hwf; have h2 : opLo 22 = 3 := rfl; omega)
 have hv2 := vld_get l hV 2
 generalize getP l 2 = p2 at *
 obtain ⟨a2, b2, c2⟩ := p2
 have HT := fun W => eTruth (a0, b0, c0) W
 generalize truP (a0, b0, c0) = t at *
 unfold valV at *
 dsimp only at *
 by_cases ht : t = 2
 ·subst ht
  rw [if_pos rfl]
  obtain ⟨HE0, HR0, HZ0, HB0⟩ := bx3 w 26 #[.int .i64 22, .int .i64 n, .int .i64 k1, .int .i64 k2, .string s, .string nm, .slice A l.length c] 27 #[.slice Ar row.length cr] 23 #[.int .i64 0, .int .i64 0, .string ⟨#[]⟩]
  go_enter Tryz.func15, Tryz.ntmps15
  go_wp2_with fail
  with_reducible refine (HWF.out _).mono ?_
  rintro e w1 ⟨rfl, hb1⟩
  obtain ⟨HE1, z1, b1, x0, x1, x2, x3, x4, x5, x6, xr⟩ := evIn HE0 HR0 HZ0 HB0 hb1
  have a1 := Below.refl w1.heap.size w1
  have HA := Lib.hid (HAA.out w1 w.heap.size (w.heap.size + 1) b1 x6 xr)
  have HR1 := Lib.hid (HRV.out.step b1 (Nat.le_refl _))
  clear hb1 HE0 HR0 HZ0 HB0 HWF
  go_wp2_with fail
  with_reducible refine (G0 w1 _ _ _ HA.out a1).mono ?_
  rintro e w2 ⟨rfl, hb2⟩
  have z2 : Own _ _ _ _ := blw z1 hb2
  have b2 := evT b1 hb2
  have a2 := evT a1 hb2
  clear hb2
  go_wp2_with fail
  with_reducible refine (HT _).mono ?_
  rintro e w3 ⟨rfl, hb3⟩
  have z3 : Own _ _ _ _ := blw z2 hb3
  have b3 := evT b2 hb3
  have a3 := evT a2 hb3
  clear hb3
  go_wp2_with fail
  with_reducible refine (G1 w1 _ _ _ HA.out a3).mono ?_
  rintro e w4 ⟨rfl, hb4⟩
  have z4 : Own _ _ _ _ := blw z3 hb4
  have b4 := evT b3 hb4
  have a4 := evT a3 hb4
  clear hb4
  have d0 := z4.cell 0; have e0 := z4.free 0; have d1 := z4.cell 1; have e1 := z4.free 1; have d2 := z4.cell 2; have e2 := z4.free 2; (try simp only [List.getElem?_toArray, List.getElem?_cons_zero, List.getElem?_cons_succ] at d0 d1 d2)
  go_wp2
  (try simp only [Exit.inBlock, Exit.then]); refine bodyPost_ret_by (results_cell_row1 (by rfl) _ _ (w.heap.size + 1 + 1) _ (by rfl) (load_val (((z4.store 0 _).store 1 _).store 2 _))) ?_ ?_; (focus rfl); refine ⟨rfl, ?_⟩
  (repeat' first | (with_reducible first | exact Below.refl _ _ | assumption | refine Below.alloc ?_ ?_ _ | refine Below.drew ?_ | refine Below.setCell ?_ ?_ _ | refine Below.trans ?_ (Below.mono (by assumption) ?_)) | go_size)
 ·rw [if_neg ht]
  obtain ⟨HE0, HR0, HZ0, HB0⟩ := bx3 w 26 #[.int .i64 22, .int .i64 n, .int .i64 k1, .int .i64 k2, .string s, .string nm, .slice A l.length c] 27 #[.slice Ar row.length cr] 23 #[.int .i64 0, .int .i64 0, .string ⟨#[]⟩]
  go_enter Tryz.func15, Tryz.ntmps15
  go_wp2_with fail
  with_reducible refine (HWF.out _).mono ?_
  rintro e w1 ⟨rfl, hb1⟩
  obtain ⟨HE1, z1, b1, x0, x1, x2, x3, x4, x5, x6, xr⟩ := evIn HE0 HR0 HZ0 HB0 hb1
  have a1 := Below.refl w1.heap.size w1
  have HA := Lib.hid (HAA.out w1 w.heap.size (w.heap.size + 1) b1 x6 xr)
  have HR1 := Lib.hid (HRV.out.step b1 (Nat.le_refl _))
  clear hb1 HE0 HR0 HZ0 HB0 HWF
  go_wp2_with fail
  with_reducible refine (G0 w1 _ _ _ HA.out a1).mono ?_
  rintro e w2 ⟨rfl, hb2⟩
  have z2 : Own _ _ _ _ := blw z1 hb2
  have b2 := evT b1 hb2
  have a2 := evT a1 hb2
  clear hb2
  go_wp2_with fail
  with_reducible refine (HT _).mono ?_
  rintro e w3 ⟨rfl, hb3⟩
  have z3 : Own _ _ _ _ := blw z2 hb3
  have b3 := evT b2 hb3
  have a3 := evT a2 hb3
  clear hb3
  go_wp2_with fail
  with_reducible refine (G2 w1 _ _ _ HA.out a3).mono ?_
  rintro e w4 ⟨rfl, hb4⟩
  have z4 : Own _ _ _ _ := blw z3 hb4
  have b4 := evT b3 hb4
  have a4 := evT a3 hb4
  clear hb4
  have d0 := z4.cell 0; have e0 := z4.free 0; have d1 := z4.cell 1; have e1 := z4.free 1; have d2 := z4.cell 2; have e2 := z4.free 2; (try simp only [List.getElem?_toArray, List.getElem?_cons_zero, List.getElem?_cons_succ] at d0 d1 d2)
  go_wp2
  (try simp only [Exit.inBlock, Exit.then]); refine bodyPost_ret_by (results_cell_row1 (by rfl) _ _ (w.heap.size + 1 + 1) _ (by rfl) (load_val (((z4.store 0 _).store 1 _).store 2 _))) ?_ ?_; (focus rfl); refine ⟨rfl, ?_⟩
  (repeat' first | (with_reducible first | exact Below.refl _ _ | assumption | refine Below.alloc ?_ ?_ _ | refine Below.drew ?_ | refine Below.setCell ?_ ?_ _ | refine Below.trans ?_ (Below.mono (by assumption) ?_)) | go_size)
theorem ev_fst : EvC 23 fun _ _ _ _ _ _ l => fstP l := by
 intro n k1 k2 s nm rv row l A c w L2 hR hl hV hwf hA
 dsimp only
 have HWF := Lib.hid (fun W => by have h := pWf_any 23 n k1 k2 s nm A l.length c W; rw [hwf] at h; exact h)
 have HRV := Lib.hid hR
 have HAA := Lib.hid hA
 obtain ⟨Ar, cr, rfl, _, _⟩ := hR
 clear hA
 have HL := fun (P Q : Addr) (W : World) (h : Args W (.pointer (some P)) (.pointer (some Q)) l) => pFirst_any l P Q W h hl
 generalize fstP l = r at *
 obtain ⟨r1, r2, r3⟩ := r
 unfold valV at *
 dsimp only at *
 obtain ⟨HE0, HR0, HZ0, HB0⟩ := bx3 w 26 #[.int .i64 23, .int .i64 n, .int .i64 k1, .int .i64 k2, .string s, .string nm, .slice A l.length c] 27 #[.slice Ar row.length cr] 23 #[.int .i64 0, .int .i64 0, .string ⟨#[]⟩]
 go_enter Tryz.func15, Tryz.ntmps15
 go_wp2_with fail
 with_reducible refine (HWF.out _).mono ?_
 rintro e w1 ⟨rfl, hb1⟩
 obtain ⟨HE1, z1, b1, x0, x1, x2, x3, x4, x5, x6, xr⟩ := evIn HE0 HR0 HZ0 HB0 hb1
 have a1 := Below.refl w1.heap.size w1
 have HA := Lib.hid (HAA.out w1 w.heap.size (w.heap.size + 1) b1 x6 xr)
 have HR1 := Lib.hid (HRV.out.step b1 (Nat.le_refl _))
 clear hb1 HE0 HR0 HZ0 HB0 HWF
 go_wp2_with fail
 with_reducible refine (HL _ _ _ (HA.out.later a1)).mono ?_
 rintro e w2 ⟨rfl, hb2⟩
 have z2 : Own _ _ _ _ := blw z1 hb2
 have b2 := evT b1 hb2
 have a2 := evT a1 hb2
 clear hb2
 have d0 := z2.cell 0; have e0 := z2.free 0; have d1 := z2.cell 1; have e1 := z2.free 1; have d2 := z2.cell 2; have e2 := z2.free 2; (try simp only [List.getElem?_toArray, List.getElem?_cons_zero, List.getElem?_cons_succ] at d0 d1 d2)
 go_wp2
 (try simp only [Exit.inBlock, Exit.then]); refine bodyPost_ret_by (results_cell_row1 (by rfl) _ _ (w.heap.size + 1 + 1) _ (by rfl) (load_val (((z2.store 0 _).store 1 _).store 2 _))) ?_ ?_; (focus rfl); refine ⟨rfl, ?_⟩
 (repeat' first | (with_reducible first | exact Below.refl _ _ | assumption | refine Below.alloc ?_ ?_ _ | refine Below.drew ?_ | refine Below.setCell ?_ ?_ _ | refine Below.trans ?_ (Below.mono (by assumption) ?_)) | go_size)
theorem ev_rel : EvC 24 fun n _ _ _ _ _ l => relP n l := by
 intro n k1 k2 s nm rv row l A c w L2 hR hl hV hwf hA
 dsimp only
 have HWF := Lib.hid (fun W => by have h := pWf_any 24 n k1 k2 s nm A l.length c W; rw [hwf] at h; exact h)
 have HRV := Lib.hid hR
 have HAA := Lib.hid hA
 obtain ⟨Ar, cr, rfl, _, _⟩ := hR
 clear hA
 have h4 : l.length = 4 := by
  unfold wfE at hwf
  simp only [Bool.and_eq_true, decide_eq_true_eq] at hwf
  have h1 : opLo 24 = 4 := rfl
  have h2 : opHi 24 = 4 := rfl
  omega
 have HL := fun (P Q : Addr) (W : World) (h : Args W (.pointer (some P)) (.pointer (some Q)) l) => pRelated_any n l P Q W h h4
 clear h4
 generalize relP n l = r at *
 obtain ⟨r1, r2, r3⟩ := r
 unfold valV at *
 dsimp only at *
 obtain ⟨HE0, HR0, HZ0, HB0⟩ := bx3 w 26 #[.int .i64 24, .int .i64 n, .int .i64 k1, .int .i64 k2, .string s, .string nm, .slice A l.length c] 27 #[.slice Ar row.length cr] 23 #[.int .i64 0, .int .i64 0, .string ⟨#[]⟩]
 go_enter Tryz.func15, Tryz.ntmps15
 go_wp2_with fail
 with_reducible refine (HWF.out _).mono ?_
 rintro e w1 ⟨rfl, hb1⟩
 obtain ⟨HE1, z1, b1, x0, x1, x2, x3, x4, x5, x6, xr⟩ := evIn HE0 HR0 HZ0 HB0 hb1
 have a1 := Below.refl w1.heap.size w1
 have HA := Lib.hid (HAA.out w1 w.heap.size (w.heap.size + 1) b1 x6 xr)
 have HR1 := Lib.hid (HRV.out.step b1 (Nat.le_refl _))
 clear hb1 HE0 HR0 HZ0 HB0 HWF
 go_wp2_with fail
 with_reducible refine (HL _ _ _ (HA.out.later a1)).mono ?_
 rintro e w2 ⟨rfl, hb2⟩
 have z2 : Own _ _ _ _ := blw z1 hb2
 have b2 := evT b1 hb2
 have a2 := evT a1 hb2
 clear hb2
 have d0 := z2.cell 0; have e0 := z2.free 0; have d1 := z2.cell 1; have e1 := z2.free 1; have d2 := z2.cell 2; have e2 := z2.free 2; (try simp only [List.getElem?_toArray, List.getElem?_cons_zero, List.getElem?_cons_succ] at d0 d1 d2)
 go_wp2
 (try simp only [Exit.inBlock, Exit.then]); refine bodyPost_ret_by (results_cell_row1 (by rfl) _ _ (w.heap.size + 1 + 1) _ (by rfl) (load_val (((z2.store 0 _).store 1 _).store 2 _))) ?_ ?_; (focus rfl); refine ⟨rfl, ?_⟩
 (repeat' first | (with_reducible first | exact Below.refl _ _ | assumption | refine Below.alloc ?_ ?_ _ | refine Below.drew ?_ | refine Below.setCell ?_ ?_ _ | refine Below.trans ?_ (Below.mono (by assumption) ?_)) | go_size)
end Go.Proofs.YtdhemhmgenhmaaaGreat
