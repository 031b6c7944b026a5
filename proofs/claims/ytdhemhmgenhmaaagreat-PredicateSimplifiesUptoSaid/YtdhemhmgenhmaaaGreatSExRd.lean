import Derived.Test.YtdhemhmgenhmaaaGreatSExRb
import Derived.Deep.RegionHeld3
import Derived.WalkKit
import Derived.WalkSpells
import Derived.WalkLawsBesides
import Derived.Deep.QuietTactic
import Derived.BigQuiet
import Derived.Handy
import Derived.Lib.Hide
set_option maxRecDepth 100000
set_option maxHeartbeats 25600000
set_option linter.unusedVariables false
set_option linter.unusedSimpArgs false
/-
  What the functions of the reference's Eval answer: two texts joined, constants and columns. Conditions: lengths.
-/
namespace Go.Proofs.YtdhemhmgenhmaaaGreat
open Go.RowKit
theorem add_str (p q : ByteArray) (h1 : p.size ≤ 1000) (h2 : q.size ≤ 1000) (W : World) : (binOp .add 9 (.string p) (.string q)).run Tryz.prog W = .ok (.string (p ++ q)) W := by
 simp [binOp, go_sem]
 omega
theorem rCat_any (ad : Addr) (c : Nat) (p q : Vl) (w : World) (L : Nat) (hv : RdV w L w.heap.size (.slice (some ad) 2 c) [p, q]) (hs1 : p.2.2.size ≤ 1000) (hs2 : q.2.2.size ≤ 1000) :
  Calls Tryz.prog 29 #[.int .i64 19, .slice (some ad) 2 c] w fun e w' => e = .returned (valV (catP p q)) ∧ Below w.heap.size w w' := by
 have o0 := own_onez w
 have B0 := bel_mk w (.cells #[.int .i64 0, .int .i64 0, .string ⟨#[]⟩] 23)
 obtain ⟨hab, pc0, pc1, pc2⟩ := rdV_at0 hv (p := p) rfl
 obtain ⟨_, qc0, qc1, qc2⟩ := rdV_atk 1 (by decide) hv (p := q) rfl
 have hAre := rAre_any _ [p, q] 2 _ L (hv.step B0 (Nat.le_refl _))
 unfold catP
 have hb2 : areP 2 [p, q] = (p.1 == 2 && q.1 == 2) := by simp [areP]
 rw [hb2] at hAre
 obtain ⟨p1, p2, p3⟩ := p
 obtain ⟨q1, q2, q3⟩ := q
 dsimp only at *
 by_cases h2 : p1 = 2 ∧ q1 = 2
 ·obtain ⟨rfl, rfl⟩ := h2
  rw [if_pos ⟨rfl, rfl⟩]
  have HA := Lib.hid (show Calls Tryz.prog 27 #[.slice (some ad) 2 c, .int .i64 2] (w.alloc (.cells #[.int .i64 0, .int .i64 0, .string ⟨#[]⟩] 23)) fun e w' => e = .returned (.bool true) ∧ Below (w.alloc (.cells #[.int .i64 0, .int .i64 0, .string ⟨#[]⟩] 23)).heap.size (w.alloc (.cells #[.int .i64 0, .int .i64 0, .string ⟨#[]⟩] 23)) w' from hAre)
  have HS := Lib.hid (show ∀ w', Below w.heap.size w w' → (Below w.heap.size w w' ∧ w'.cell? ⟨ad.block, ad.off + 2, none⟩ = some (.string p3) ∧ w'.cell? ⟨ad.block, ad.off + 3 + 2, none⟩ = some (.string q3)) from fun w' hb => ⟨hb, (hb.cell (p := ⟨ad.block, ad.off + 2, none⟩) hab).trans pc2, (hb.cell (p := ⟨ad.block, ad.off + 3 + 2, none⟩) hab).trans qc2⟩)
  have qq := fun W => add_str p3 q3 hs1 hs2 W
  clear hAre hv hb2 pc0 pc1 pc2 qc0 qc1 qc2
  have hI := fun W => fText (p3 ++ q3) W
  generalize txtP (p3 ++ q3) = r at hI ⊢
  obtain ⟨r1, r2, r3⟩ := r
  unfold valV at *
  dsimp only at hI ⊢
  go_enter Tryz.func29, Tryz.ntmps29
  go_wp2_with fail
  with_reducible refine (HA.out).mono ?_
  rintro e w1 ⟨rfl, hb1⟩
  have o1 := o0.below hb1 o0.lt
  have B1 := B0.trans (hb1.mono B0.size)
  clear hb1
  have HB5 := Lib.hid (show Below w.heap.size w w1.drew from B1.drew)
  have HO5 := Lib.hid (show Own w1.drew w.heap.size 23 #[.int .i64 0, .int .i64 0, .string ⟨#[]⟩] from o1)
  clear o0 B0 o1 B1
  have y0 := (HS.out _ HB5.out).2.1
  have y1 := (HS.out _ HB5.out).2.2
  go_wp2_with fail
  go_region_with (go_at_call 73; refine (hI _).mono ?_; rintro e w2 ⟨rfl, hb⟩; have hbW := HB5.out.trans (hb.mono HB5.out.size); have o2 := HO5.out.below hb HO5.out.lt; have f0 := o2.cell 0; have f1 := o2.cell 1; have f2 := o2.cell 2; have j0 := o2.free 0; have j1 := o2.free 1; have j2 := o2.free 2)
  all_goals
   go_wp2
   (try simp only [Exit.inBlock, Exit.then]); refine bodyPost_ret_by (results_cell_row1 (by rfl) _ _ (w.heap.size) _ (by rfl) (load_val (((o2.store 0 _).store 1 _).store 2 _))) ?_ ?_; (focus rfl); refine ⟨rfl, ?_⟩
   exact (((hbW.sc w.heap.size 0 _).sc w.heap.size 1 _).sc w.heap.size 2 _)
 ·rw [if_neg h2]
  have hbf : (p1 == 2 && q1 == 2) = false := by
   cases h : (p1 == 2 && q1 == 2) with
   | false => rfl
   | true => simp only [Bool.and_eq_true, beq_iff_eq] at h; exact absurd h h2
  rw [hbf] at hAre
  have HA := Lib.hid hAre
  have hI := fun W => fNull W
  unfold valV nullP at *
  dsimp only at hI ⊢
  clear hAre hv hb2
  go_enter Tryz.func29, Tryz.ntmps29
  go_wp2_with fail
  with_reducible refine (HA.out).mono ?_
  rintro e w1 ⟨rfl, hb1⟩
  have o1 := o0.below hb1 o0.lt
  have B1 := B0.trans (hb1.mono B0.size)
  clear hb1
  go_wp2_with fail
  with_reducible refine (hI _).mono ?_
  rintro e w2 ⟨rfl, hb2⟩
  have o2 := o1.below hb2 o1.lt
  have B2 := B1.trans (hb2.mono B1.size)
  clear hb2
  have d0 := o2.cell 0; have e0 := o2.free 0; have d1 := o2.cell 1; have e1 := o2.free 1; have d2 := o2.cell 2; have e2 := o2.free 2; (try simp only [List.getElem?_toArray, List.getElem?_cons_zero, List.getElem?_cons_succ] at d0 d1 d2)
  go_wp2
  (try simp only [Exit.inBlock, Exit.then]); refine bodyPost_ret_by (results_cell_row1 (by rfl) _ _ (w.heap.size) _ (by rfl) (load_val (((o2.store 0 _).store 1 _).store 2 _))) ?_ ?_; (focus rfl); refine ⟨rfl, ?_⟩
  (repeat' first | (with_reducible first | exact Below.refl _ _ | assumption | refine Below.alloc ?_ ?_ _ | refine Below.drew ?_ | refine Below.setCell ?_ ?_ _ | refine Below.trans ?_ (Below.mono (by assumption) ?_)) | go_size)
theorem rLeaf_1 (n k1 k2 : Int) (s nm : ByteArray) (A : Option Addr) (m c : Nat) (rv : Value) (w : World) (hv : Va.vldV k1 k2 s = true) :
  Calls Tryz.prog 21 #[.agg #[.int .i64 1, .int .i64 n, .int .i64 k1, .int .i64 k2, .string s, .string nm, .slice A m c], rv] w fun e w' => e = .returned (valV (k1, k2, s)) ∧ Below w.heap.size w w' := by
 have hV := fun W => Va.rValid_any k1 k2 s W
 rw [hv] at hV
 unfold Va.vV at hV
 have HV := Lib.hid hV
 unfold valV
 dsimp only
 have oV := own_three (w := w) (t := 23) (cs := #[.int .i64 k1, .int .i64 k2, .string s]) (.cells #[.int .i64 1, .int .i64 n, .int .i64 k1, .int .i64 k2, .string s, .string nm, .slice A m c] 26) (.cells #[.int .i64 0, .int .i64 0, .string ⟨#[]⟩] 23)
 have oR := (Va.own_two (w := w) (t := 23) (cs := #[.int .i64 0, .int .i64 0, .string ⟨#[]⟩]) (.cells #[.int .i64 1, .int .i64 n, .int .i64 k1, .int .i64 k2, .string s, .string nm, .slice A m c] 26)).alloc (.cells #[.int .i64 k1, .int .i64 k2, .string s] 23)
 have B0 : Below w.heap.size w (((w.alloc (.cells #[.int .i64 1, .int .i64 n, .int .i64 k1, .int .i64 k2, .string s, .string nm, .slice A m c] 26)).alloc (.cells #[.int .i64 0, .int .i64 0, .string ⟨#[]⟩] 23)).alloc (.cells #[.int .i64 k1, .int .i64 k2, .string s] 23)) := ((bel_mk w _).trans ((bel_mk _ _).mono (by simp))).trans ((bel_mk _ _).mono (by simp; omega))
 clear hV hv
 go_enter Tryz.func21, Tryz.ntmps21
 go_wp2_with fail
 with_reducible refine (HV.out _).mono ?_
 rintro e w1 ⟨rfl, hb1⟩
 have v1 := oV.below hb1 oV.lt
 have o1 := oR.below hb1 oR.lt
 have B1 := B0.trans (hb1.mono B0.size)
 clear hb1 oV oR B0
 have d0 := o1.cell 0; have e0 := o1.free 0; have d1 := o1.cell 1; have e1 := o1.free 1; have d2 := o1.cell 2; have e2 := o1.free 2; (try simp only [List.getElem?_toArray, List.getElem?_cons_zero, List.getElem?_cons_succ] at d0 d1 d2)
 have d0a := v1.cell 0; have e0a := v1.free 0; have d1a := v1.cell 1; have e1a := v1.free 1; have d2a := v1.cell 2; have e2a := v1.free 2; (try simp only [List.getElem?_toArray, List.getElem?_cons_zero, List.getElem?_cons_succ] at d0a d1a d2a)
 go_wp2
 (try simp only [Exit.inBlock, Exit.then]); refine bodyPost_ret_by (results_cell_row1 (by rfl) _ _ (w.heap.size + 1) _ (by rfl) (load_val (((o1.store 0 _).store 1 _).store 2 _))) ?_ ?_; (focus rfl); refine ⟨rfl, ?_⟩
 (repeat' first | (with_reducible first | exact Below.refl _ _ | assumption | refine Below.alloc ?_ ?_ _ | refine Below.drew ?_ | refine Below.setCell ?_ ?_ _ | refine Below.trans ?_ (Below.mono (by assumption) ?_)) | go_size)
theorem col_at (row : List Vl) (n : Int) : colP row n = nrmP (atP row n) := by
 unfold colP
 by_cases h0 : 0 ≤ n
 ·rw [if_pos h0]
  obtain ⟨k, rfl⟩ := Int.eq_ofNat_of_zero_le h0
  rw [Int.toNat_natCast]
  by_cases hk : k < row.length
  ·rw [List.getElem?_eq_getElem hk, atP_in row k hk]
  ·rw [List.getElem?_eq_none (by omega), atP_out row k hk]; decide +kernel
 ·rw [if_neg h0, atP_neg row n (by omega)]; decide +kernel
theorem rLeaf_2 (n k1 k2 : Int) (s nm : ByteArray) (A : Option Addr) (m c : Nat) (rv : Value) (row : List Vl) (w : World) (L : Nat) (hr : RdV w L w.heap.size rv row) :
  Calls Tryz.prog 21 #[.agg #[.int .i64 2, .int .i64 n, .int .i64 k1, .int .i64 k2, .string s, .string nm, .slice A m c], rv] w fun e w' => e = .returned (valV (colP row n)) ∧ Below w.heap.size w w' := by
 rw [col_at]
 have HAT := Lib.hid (fun (W : World) (h : Below w.heap.size w W) => rAt_any rv row n W L (hr.step h (Nat.le_refl _)))
 generalize atP row n = p at *
 obtain ⟨p1, p2, p3⟩ := p
 have hV := fun W => Va.rValid_any p1 p2 p3 W
 unfold Va.vV at hV
 have hN := fun W => fNull W
 unfold nrmP vldP valV nullP at *
 dsimp only at *
 have oV := own_three (w := w) (t := 23) (cs := #[.int .i64 k1, .int .i64 k2, .string s]) (.cells #[.int .i64 2, .int .i64 n, .int .i64 k1, .int .i64 k2, .string s, .string nm, .slice A m c] 26) (.cells #[.int .i64 0, .int .i64 0, .string ⟨#[]⟩] 23)
 have oR := (Va.own_two (w := w) (t := 23) (cs := #[.int .i64 0, .int .i64 0, .string ⟨#[]⟩]) (.cells #[.int .i64 2, .int .i64 n, .int .i64 k1, .int .i64 k2, .string s, .string nm, .slice A m c] 26)).alloc (.cells #[.int .i64 k1, .int .i64 k2, .string s] 23)
 have oE := ((Own.new w 26 #[.int .i64 2, .int .i64 n, .int .i64 k1, .int .i64 k2, .string s, .string nm, .slice A m c]).alloc (.cells #[.int .i64 0, .int .i64 0, .string ⟨#[]⟩] 23)).alloc (.cells #[.int .i64 k1, .int .i64 k2, .string s] 23)
 have x0 := oE.cell 0
 have x1 := oE.cell 1
 have B0 : Below w.heap.size w (((w.alloc (.cells #[.int .i64 2, .int .i64 n, .int .i64 k1, .int .i64 k2, .string s, .string nm, .slice A m c] 26)).alloc (.cells #[.int .i64 0, .int .i64 0, .string ⟨#[]⟩] 23)).alloc (.cells #[.int .i64 k1, .int .i64 k2, .string s] 23)) := ((bel_mk w _).trans ((bel_mk _ _).mono (by simp))).trans ((bel_mk _ _).mono (by simp; omega))
 have HV := Lib.hid hV
 obtain ⟨Ar, cr, rfl, _, _⟩ := hr
 clear hV oE
 cases hvv : Va.vldV p1 p2 p3
 ·rw [hvv] at HV
  rw [if_neg (by simp)]
  dsimp only
  go_enter Tryz.func21, Tryz.ntmps21
  go_wp2_with fail
  with_reducible refine (HAT.out _ B0).mono ?_
  rintro e w1 ⟨rfl, hb1, _⟩
  have v1 := oV.below hb1 oV.lt
  have o1 := oR.below hb1 oR.lt
  have B1 := B0.trans (hb1.mono B0.size)
  clear hb1 x0 x1
  have v1s := ((v1.store 0 (.int .i64 p1)).store 1 (.int .i64 p2)).store 2 (.string p3)
  have o1s := ((o1.far (p := ⟨w.heap.size + 1 + 1, 0, none⟩) (by show w.heap.size + 1 ≠ w.heap.size + 1 + 1; omega) (.int .i64 p1)).far (p := ⟨w.heap.size + 1 + 1, 1, none⟩) (by show w.heap.size + 1 ≠ w.heap.size + 1 + 1; omega) (.int .i64 p2)).far (p := ⟨w.heap.size + 1 + 1, 2, none⟩) (by show w.heap.size + 1 ≠ w.heap.size + 1 + 1; omega) (.string p3)
  have B1s := ((B1.sc (w.heap.size + 1 + 1) 0 (.int .i64 p1)).sc (w.heap.size + 1 + 1) 1 (.int .i64 p2)).sc (w.heap.size + 1 + 1) 2 (.string p3)
  have d0a := v1.cell 0; have e0a := v1.free 0; have d1a := v1.cell 1; have e1a := v1.free 1; have d2a := v1.cell 2; have e2a := v1.free 2; (try simp only [List.getElem?_toArray, List.getElem?_cons_zero, List.getElem?_cons_succ] at d0a d1a d2a)
  have y0 := v1s.cell 0
  have y1 := v1s.cell 1
  have y2 := v1s.cell 2
  simp only [List.setIfInBounds_toArray, List.set_cons_zero, List.set_cons_succ, List.getElem?_toArray, List.getElem?_cons_zero, List.getElem?_cons_succ] at y0 y1 y2 v1s
  go_wp2_with fail
  with_reducible refine (HV.out _).mono ?_
  rintro e w2 ⟨rfl, hb2⟩
  have v2 := v1s.below hb2 v1s.lt
  have o2 := o1s.below hb2 o1s.lt
  have B2 := B1s.trans (hb2.mono B1s.size)
  clear hb2 v1 o1 B1 v1s o1s B1s y0 y1 y2
  go_wp2_with fail
  with_reducible refine (hN _).mono ?_
  rintro e w3 ⟨rfl, hb3⟩
  have o3 := o2.below hb3 o2.lt
  have B3 := B2.trans (hb3.mono B2.size)
  clear hb3 o2 v2
  have d0 := o3.cell 0; have e0 := o3.free 0; have d1 := o3.cell 1; have e1 := o3.free 1; have d2 := o3.cell 2; have e2 := o3.free 2; (try simp only [List.getElem?_toArray, List.getElem?_cons_zero, List.getElem?_cons_succ] at d0 d1 d2)
  go_wp2
  (try simp only [Exit.inBlock, Exit.then]); refine bodyPost_ret_by (results_cell_row1 (by rfl) _ _ (w.heap.size + 1) _ (by rfl) (load_val (((o3.store 0 _).store 1 _).store 2 _))) ?_ ?_; (focus rfl); refine ⟨rfl, ?_⟩
  (repeat' first | (with_reducible first | exact Below.refl _ _ | assumption | refine Below.alloc ?_ ?_ _ | refine Below.drew ?_ | refine Below.setCell ?_ ?_ _ | refine Below.trans ?_ (Below.mono (by assumption) ?_)) | go_size)
 ·rw [hvv] at HV
  rw [if_pos rfl]
  dsimp only
  go_enter Tryz.func21, Tryz.ntmps21
  go_wp2_with fail
  with_reducible refine (HAT.out _ B0).mono ?_
  rintro e w1 ⟨rfl, hb1, _⟩
  have v1 := oV.below hb1 oV.lt
  have o1 := oR.below hb1 oR.lt
  have B1 := B0.trans (hb1.mono B0.size)
  clear hb1 x0 x1
  have v1s := ((v1.store 0 (.int .i64 p1)).store 1 (.int .i64 p2)).store 2 (.string p3)
  have o1s := ((o1.far (p := ⟨w.heap.size + 1 + 1, 0, none⟩) (by show w.heap.size + 1 ≠ w.heap.size + 1 + 1; omega) (.int .i64 p1)).far (p := ⟨w.heap.size + 1 + 1, 1, none⟩) (by show w.heap.size + 1 ≠ w.heap.size + 1 + 1; omega) (.int .i64 p2)).far (p := ⟨w.heap.size + 1 + 1, 2, none⟩) (by show w.heap.size + 1 ≠ w.heap.size + 1 + 1; omega) (.string p3)
  have B1s := ((B1.sc (w.heap.size + 1 + 1) 0 (.int .i64 p1)).sc (w.heap.size + 1 + 1) 1 (.int .i64 p2)).sc (w.heap.size + 1 + 1) 2 (.string p3)
  have d0a := v1.cell 0; have e0a := v1.free 0; have d1a := v1.cell 1; have e1a := v1.free 1; have d2a := v1.cell 2; have e2a := v1.free 2; (try simp only [List.getElem?_toArray, List.getElem?_cons_zero, List.getElem?_cons_succ] at d0a d1a d2a)
  have y0 := v1s.cell 0
  have y1 := v1s.cell 1
  have y2 := v1s.cell 2
  simp only [List.setIfInBounds_toArray, List.set_cons_zero, List.set_cons_succ, List.getElem?_toArray, List.getElem?_cons_zero, List.getElem?_cons_succ] at y0 y1 y2 v1s
  go_wp2_with fail
  with_reducible refine (HV.out _).mono ?_
  rintro e w2 ⟨rfl, hb2⟩
  have v2 := v1s.below hb2 v1s.lt
  have o2 := o1s.below hb2 o1s.lt
  have B2 := B1s.trans (hb2.mono B1s.size)
  clear hb2 v1 o1 B1 v1s o1s B1s y0 y1 y2
  have d0 := o2.cell 0; have e0 := o2.free 0; have d1 := o2.cell 1; have e1 := o2.free 1; have d2 := o2.cell 2; have e2 := o2.free 2; (try simp only [List.getElem?_toArray, List.getElem?_cons_zero, List.getElem?_cons_succ] at d0 d1 d2)
  have d0a := v2.cell 0; have e0a := v2.free 0; have d1a := v2.cell 1; have e1a := v2.free 1; have d2a := v2.cell 2; have e2a := v2.free 2; (try simp only [List.getElem?_toArray, List.getElem?_cons_zero, List.getElem?_cons_succ] at d0a d1a d2a)
  go_wp2
  (try simp only [Exit.inBlock, Exit.then]); refine bodyPost_ret_by (results_cell_row1 (by rfl) _ _ (w.heap.size + 1) _ (by rfl) (load_val (((o2.store 0 _).store 1 _).store 2 _))) ?_ ?_; (focus rfl); refine ⟨rfl, ?_⟩
  (repeat' first | (with_reducible first | exact Below.refl _ _ | assumption | refine Below.alloc ?_ ?_ _ | refine Below.drew ?_ | refine Below.setCell ?_ ?_ _ | refine Below.trans ?_ (Below.mono (by assumption) ?_)) | go_size)
end Go.Proofs.YtdhemhmgenhmaaaGreat
