import Derived.Test.YtdhemhmgenhmaaaGreatQEE
import Derived.Test.YtdhemhmgenhmaaaGreatQX
import Derived.WalkKit
import Derived.WalkSpells
import Derived.WalkLawsBesides
import Derived.Deep.QuietTactic
import Derived.BigQuiet
import Derived.Handy
import Derived.Lib.Hide
set_option maxRecDepth 100000
set_option maxHeartbeats 25600000
set_option linter.unusedVariables false
set_option linter.unusedSimpArgs false
/-
  What the functions of the reference's Eval answer: conjunctions and disjunctions. Conditions: lengths.
-/
namespace Go.Proofs.YtdhemhmgenhmaaaGreat
open Go.RowKit
theorem rdV_at0 {w : World} {L B n c : Nat} {ad : Addr} {l : List Vl} {p : Vl} (h : RdV w L B (.slice (some ad) n c) l) (hk : l[0]? = some p) : ad.block < B ∧ w.cell? ad = some (.int .i64 p.1) ∧ w.cell? ⟨ad.block, ad.off + 1, none⟩ = some (.int .i64 p.2.1) ∧ w.cell? ⟨ad.block, ad.off + 2, none⟩ = some (.string p.2.2) := by
 obtain ⟨A, c', hv, _, hc⟩ := h
 injection hv with e1 e2 e3
 subst e1
 obtain ⟨ad', e4, _, hb, c0, c1, c2⟩ := hc 0 p hk
 injection e4 with e4
 subst e4
 have e : ad.add (0 * 3) = ad := by unfold Addr.add; simp
 rw [e] at c0 c1 c2
 exact ⟨hb, c0, c1, c2⟩
theorem rdV_atk {w : World} {L B n c : Nat} {ad : Addr} {l : List Vl} {p : Vl} (k : Nat) (h0 : k ≠ 0) (h : RdV w L B (.slice (some ad) n c) l) (hk : l[k]? = some p) : ad.block < B ∧ w.cell? ⟨ad.block, ad.off + k * 3, none⟩ = some (.int .i64 p.1) ∧ w.cell? ⟨ad.block, ad.off + k * 3 + 1, none⟩ = some (.int .i64 p.2.1) ∧ w.cell? ⟨ad.block, ad.off + k * 3 + 2, none⟩ = some (.string p.2.2) := by
 obtain ⟨A, c', hv, _, hc⟩ := h
 injection hv with e1 e2 e3
 subst e1
 obtain ⟨ad', e4, _, hb, c0, c1, c2⟩ := hc k p hk
 injection e4 with e4
 subst e4
 have e : ad.add (k * 3) = ⟨ad.block, ad.off + k * 3, none⟩ := by unfold Addr.add; rw [if_neg (by omega)]
 rw [e] at c0 c1 c2
 exact ⟨hb, c0, c1, c2⟩
theorem rLog_5 (ad : Addr) (n c : Nat) (l : List Vl) (w : World) (L : Nat) (hv : RdV w L w.heap.size (.slice (some ad) l.length c) l) (h1 : 1 ≤ l.length) :
  Calls Tryz.prog 25 #[.int .i64 5, .slice (some ad) l.length c] w fun e w' => e = .returned (valV (ofP (logF 5 (truP (getP l 0)) l.tail))) ∧ Below w.heap.size w w' := by
 have HC := Lib.hid hv
 have o0 := own_onez w
 have B0 := bel_mk w (.cells #[.int .i64 0, .int .i64 0, .string ⟨#[]⟩] 23)
 have HO0 := Lib.hid o0
 have HB0 := Lib.hid B0
 have hg : l[0]? = some (getP l 0) := by unfold getP; rw [List.getD_eq_getElem?_getD, List.getElem?_eq_getElem (by omega)]; rfl
 obtain ⟨hab, c0, c1, c2⟩ := rdV_at0 hv hg
 have d0 := (B0.cell (p := ad) hab).trans c0
 have d1 := (B0.cell (p := ⟨ad.block, ad.off + 1, none⟩) hab).trans c1
 have d2 := (B0.cell (p := ⟨ad.block, ad.off + 2, none⟩) hab).trans c2
 have HT := Lib.hid (fun (r : Vl) (W : World) => fTruth r W)
 have hIF := fun W => fOf (logF 5 (truP (getP l 0)) l.tail) W
 generalize getP l 0 = p at *
 have HT0 := Lib.hid (fun (W : World) => fTruth p W)
 generalize hLF : logF 5 (truP p) l.tail = F at *
 have HLF := Lib.hid hLF
 generalize ofP F = r at *
 obtain ⟨r1, r2, r3⟩ := r
 obtain ⟨p1, p2, p3⟩ := p
 unfold valV at *
 dsimp only at *
 have HI := Lib.hid hIF
 generalize truP (p1, p2, p3) = t0 at *
 have h1i : (0 : Int) < l.length := by omega
 clear hIF hLF hv hg c0 c1 c2 o0 B0
 go_enter Tryz.func25, Tryz.ntmps25
 go_wp2_with fail
 with_reducible refine (HT0.out _).mono ?_
 rintro e w1 ⟨rfl, hb1⟩
 have HO1 := Lib.hid (HO0.out.below hb1 HO0.out.lt)
 have HB1 := Lib.hid (HB0.out.trans (hb1.mono HB0.out.size))
 clear hb1 HO0 HB0 d0 d1 d2
 go_wp2_with fail
 go_loopw [5, 6] (fun t i wr => ∃ (k : Nat) (tv : Int), 1 ≤ k ∧ k ≤ l.length ∧ i = .int .i64 k ∧ t = .int .i64 tv ∧ Hid (F = logF 5 tv (l.drop k)) ∧ Hid (Own wr w.heap.size 23 #[.int .i64 0, .int .i64 0, .string ⟨#[]⟩]) ∧ Below w.heap.size w wr) (fun _ i _ => l.length - (intOf i).toNat)
 case atStart => exact ⟨1, _, Nat.le_refl _, by omega, rfl, rfl, Lib.hid (by rw [List.drop_one]; exact HLF.out.symm), HO1, HB1.out⟩
 case round =>
  clear HLF HO1 HB1 HT0
  obtain ⟨k, tv, hk1, hk, rfl, rfl, HR, HO, hbr⟩ := hrel
  have hbz := hbr.size
  by_cases hlt : k < l.length
  ·have hki : (k : Int) < l.length := by omega
   obtain ⟨A', c', hv', _, hcc⟩ := HC.out
   injection hv' with e1 e2 e3
   subst e1 e3
   obtain ⟨ad', e4, _, hab', c0, c1, c2⟩ := hcc k _ (List.getElem?_eq_getElem hlt)
   injection e4 with e4
   subst e4
   have d0 := (hbr.cell (p := ad.add (k * 3)) (by rw [add_block]; exact hab')).trans c0
   have d1 := (hbr.cell (p := ⟨(ad.add (k * 3)).block, (ad.add (k * 3)).off + 1, none⟩) (by show (ad.add (k * 3)).block < _; rw [add_block]; exact hab')).trans c1
   have d2 := (hbr.cell (p := ⟨(ad.add (k * 3)).block, (ad.add (k * 3)).off + 2, none⟩) (by show (ad.add (k * 3)).block < _; rw [add_block]; exact hab')).trans c2
   have hdr := logF_drop 5 tv l k _ (List.getElem?_eq_getElem hlt)
   rw [← HR.out] at hdr
   generalize l[k] = q at *
   have HTq := Lib.hid (fun (W : World) => fTruth q W)
   obtain ⟨q1, q2, q3⟩ := q
   unfold valV at HTq
   dsimp only at d0 d1 d2 HTq
   have HD := Lib.hid hdr
   clear hdr HR hcc c0 c1 c2 e2
   go_wp2_with fail
   with_reducible refine (HTq.out _).mono ?_
   rintro e w3 ⟨rfl, hb1⟩
   have o1 := Lib.hid (HO.out.below hb1 HO.out.lt)
   have B1 := Lib.hid (hbr.trans (hb1.mono hbz))
   clear hb1 d0 d1 d2 HTq HO
   go_wp2_with fail
   with_reducible refine (Va.rAnd_any _ _ _).mono ?_
   rintro e w4 ⟨rfl, hb2⟩
   have o2 := Lib.hid (o1.out.below hb2 o1.out.lt)
   have B2 := Lib.hid (B1.out.trans (hb2.mono B1.out.size))
   have HD2 := Lib.hid (show F = logF 5 (Va.vand tv (truP (q1, q2, q3))) (l.drop (k + 1)) by rw [HD.out]; rfl)
   clear hb2 o1 B1 HD
   go_wp2
   go_round
   case rel => exact ⟨k + 1, _, by omega, by omega, by go_num, rfl, HD2, o2, B2.out⟩
   case measure => simp [intOf]; omega
  ·have hki : ¬ (k : Int) < l.length := by omega
   have hF : tv = F := by rw [HR.out, List.drop_eq_nil_of_le (by omega)]; rfl
   subst hF
   have o3 := HO.out
   have B3 := hbr
   clear HR
   go_wp2_with fail
   with_reducible refine (HI.out _).mono ?_
   rintro e w4 ⟨rfl, hb4⟩
   have o4 := o3.below hb4 o3.lt
   have B4 := B3.trans (hb4.mono B3.size)
   clear hb4
   have d0 := o4.cell 0; have e0 := o4.free 0; have d1 := o4.cell 1; have e1 := o4.free 1; have d2 := o4.cell 2; have e2 := o4.free 2; (try simp only [List.getElem?_toArray, List.getElem?_cons_zero, List.getElem?_cons_succ] at d0 d1 d2)
   go_wp2
   (try simp only [Exit.inBlock, Exit.then]); refine bodyPost_ret_by (results_cell_row1 (by rfl) _ _ (w.heap.size) _ (by rfl) (load_val (((o4.store 0 _).store 1 _).store 2 _))) ?_ ?_; (focus rfl); refine ⟨rfl, ?_⟩
   (repeat' first | (with_reducible first | exact Below.refl _ _ | assumption | refine Below.alloc ?_ ?_ _ | refine Below.drew ?_ | refine Below.setCell ?_ ?_ _ | refine Below.trans ?_ (Below.mono (by assumption) ?_)) | go_size)
theorem rLog_6 (ad : Addr) (n c : Nat) (l : List Vl) (w : World) (L : Nat) (hv : RdV w L w.heap.size (.slice (some ad) l.length c) l) (h1 : 1 ≤ l.length) :
  Calls Tryz.prog 25 #[.int .i64 6, .slice (some ad) l.length c] w fun e w' => e = .returned (valV (ofP (logF 6 (truP (getP l 0)) l.tail))) ∧ Below w.heap.size w w' := by
 have HC := Lib.hid hv
 have o0 := own_onez w
 have B0 := bel_mk w (.cells #[.int .i64 0, .int .i64 0, .string ⟨#[]⟩] 23)
 have HO0 := Lib.hid o0
 have HB0 := Lib.hid B0
 have hg : l[0]? = some (getP l 0) := by unfold getP; rw [List.getD_eq_getElem?_getD, List.getElem?_eq_getElem (by omega)]; rfl
 obtain ⟨hab, c0, c1, c2⟩ := rdV_at0 hv hg
 have d0 := (B0.cell (p := ad) hab).trans c0
 have d1 := (B0.cell (p := ⟨ad.block, ad.off + 1, none⟩) hab).trans c1
 have d2 := (B0.cell (p := ⟨ad.block, ad.off + 2, none⟩) hab).trans c2
 have HT := Lib.hid (fun (r : Vl) (W : World) => fTruth r W)
 have hIF := fun W => fOf (logF 6 (truP (getP l 0)) l.tail) W
 generalize getP l 0 = p at *
 have HT0 := Lib.hid (fun (W : World) => fTruth p W)
 generalize hLF : logF 6 (truP p) l.tail = F at *
 have HLF := Lib.hid hLF
 generalize ofP F = r at *
 obtain ⟨r1, r2, r3⟩ := r
 obtain ⟨p1, p2, p3⟩ := p
 unfold valV at *
 dsimp only at *
 have HI := Lib.hid hIF
 generalize truP (p1, p2, p3) = t0 at *
 have h1i : (0 : Int) < l.length := by omega
 clear hIF hLF hv hg c0 c1 c2 o0 B0
 go_enter Tryz.func25, Tryz.ntmps25
 go_wp2_with fail
 with_reducible refine (HT0.out _).mono ?_
 rintro e w1 ⟨rfl, hb1⟩
 have HO1 := Lib.hid (HO0.out.below hb1 HO0.out.lt)
 have HB1 := Lib.hid (HB0.out.trans (hb1.mono HB0.out.size))
 clear hb1 HO0 HB0 d0 d1 d2
 go_wp2_with fail
 go_loopw [5, 6] (fun t i wr => ∃ (k : Nat) (tv : Int), 1 ≤ k ∧ k ≤ l.length ∧ i = .int .i64 k ∧ t = .int .i64 tv ∧ Hid (F = logF 6 tv (l.drop k)) ∧ Hid (Own wr w.heap.size 23 #[.int .i64 0, .int .i64 0, .string ⟨#[]⟩]) ∧ Below w.heap.size w wr) (fun _ i _ => l.length - (intOf i).toNat)
 case atStart => exact ⟨1, _, Nat.le_refl _, by omega, rfl, rfl, Lib.hid (by rw [List.drop_one]; exact HLF.out.symm), HO1, HB1.out⟩
 case round =>
  clear HLF HO1 HB1 HT0
  obtain ⟨k, tv, hk1, hk, rfl, rfl, HR, HO, hbr⟩ := hrel
  have hbz := hbr.size
  by_cases hlt : k < l.length
  ·have hki : (k : Int) < l.length := by omega
   obtain ⟨A', c', hv', _, hcc⟩ := HC.out
   injection hv' with e1 e2 e3
   subst e1 e3
   obtain ⟨ad', e4, _, hab', c0, c1, c2⟩ := hcc k _ (List.getElem?_eq_getElem hlt)
   injection e4 with e4
   subst e4
   have d0 := (hbr.cell (p := ad.add (k * 3)) (by rw [add_block]; exact hab')).trans c0
   have d1 := (hbr.cell (p := ⟨(ad.add (k * 3)).block, (ad.add (k * 3)).off + 1, none⟩) (by show (ad.add (k * 3)).block < _; rw [add_block]; exact hab')).trans c1
   have d2 := (hbr.cell (p := ⟨(ad.add (k * 3)).block, (ad.add (k * 3)).off + 2, none⟩) (by show (ad.add (k * 3)).block < _; rw [add_block]; exact hab')).trans c2
   have hdr := logF_drop 6 tv l k _ (List.getElem?_eq_getElem hlt)
   rw [← HR.out] at hdr
   generalize l[k] = q at *
   have HTq := Lib.hid (fun (W : World) => fTruth q W)
   obtain ⟨q1, q2, q3⟩ := q
   unfold valV at HTq
   dsimp only at d0 d1 d2 HTq
   have HD := Lib.hid hdr
   clear hdr HR hcc c0 c1 c2 e2
   go_wp2_with fail
   with_reducible refine (HTq.out _).mono ?_
   rintro e w3 ⟨rfl, hb1⟩
   have o1 := Lib.hid (HO.out.below hb1 HO.out.lt)
   have B1 := Lib.hid (hbr.trans (hb1.mono hbz))
   clear hb1 d0 d1 d2 HTq HO
   go_wp2_with fail
   with_reducible refine (Va.rOr_any _ _ _).mono ?_
   rintro e w4 ⟨rfl, hb2⟩
   have o2 := Lib.hid (o1.out.below hb2 o1.out.lt)
   have B2 := Lib.hid (B1.out.trans (hb2.mono B1.out.size))
   have HD2 := Lib.hid (show F = logF 6 (Va.vor tv (truP (q1, q2, q3))) (l.drop (k + 1)) by rw [HD.out]; rfl)
   clear hb2 o1 B1 HD
   go_wp2
   go_round
   case rel => exact ⟨k + 1, _, by omega, by omega, by go_num, rfl, HD2, o2, B2.out⟩
   case measure => simp [intOf]; omega
  ·have hki : ¬ (k : Int) < l.length := by omega
   have hF : tv = F := by rw [HR.out, List.drop_eq_nil_of_le (by omega)]; rfl
   subst hF
   have o3 := HO.out
   have B3 := hbr
   clear HR
   go_wp2_with fail
   with_reducible refine (HI.out _).mono ?_
   rintro e w4 ⟨rfl, hb4⟩
   have o4 := o3.below hb4 o3.lt
   have B4 := B3.trans (hb4.mono B3.size)
   clear hb4
   have d0 := o4.cell 0; have e0 := o4.free 0; have d1 := o4.cell 1; have e1 := o4.free 1; have d2 := o4.cell 2; have e2 := o4.free 2; (try simp only [List.getElem?_toArray, List.getElem?_cons_zero, List.getElem?_cons_succ] at d0 d1 d2)
   go_wp2
   (try simp only [Exit.inBlock, Exit.then]); refine bodyPost_ret_by (results_cell_row1 (by rfl) _ _ (w.heap.size) _ (by rfl) (load_val (((o4.store 0 _).store 1 _).store 2 _))) ?_ ?_; (focus rfl); refine ⟨rfl, ?_⟩
   (repeat' first | (with_reducible first | exact Below.refl _ _ | assumption | refine Below.alloc ?_ ?_ _ | refine Below.drew ?_ | refine Below.setCell ?_ ?_ _ | refine Below.trans ?_ (Below.mono (by assumption) ?_)) | go_size)
theorem rLen_any (ad : Addr) (c : Nat) (p : Vl) (w : World) (L : Nat) (hv : RdV w L w.heap.size (.slice (some ad) 1 c) [p]) :
  Calls Tryz.prog 29 #[.int .i64 20, .slice (some ad) 1 c] w fun e w' => e = .returned (valV (lenP p)) ∧ Below w.heap.size w w' := by
 have o0 := own_onez w
 have B0 := bel_mk w (.cells #[.int .i64 0, .int .i64 0, .string ⟨#[]⟩] 23)
 obtain ⟨hab, pc0, pc1, pc2⟩ := rdV_at0 hv (p := p) rfl
 have hAre := rAre_any _ [p] 2 _ L (hv.step B0 (Nat.le_refl _))
 unfold lenP
 have hb2 : areP 2 [p] = (p.1 == 2) := by simp [areP]
 rw [hb2] at hAre
 obtain ⟨p1, p2, p3⟩ := p
 dsimp only at *
 by_cases h2 : p1 = 2
 ·subst h2
  rw [if_pos rfl]
  have HA := Lib.hid (show Calls Tryz.prog 27 #[.slice (some ad) 1 c, .int .i64 2] (w.alloc (.cells #[.int .i64 0, .int .i64 0, .string ⟨#[]⟩] 23)) fun e w' => e = .returned (.bool true) ∧ Below (w.alloc (.cells #[.int .i64 0, .int .i64 0, .string ⟨#[]⟩] 23)).heap.size (w.alloc (.cells #[.int .i64 0, .int .i64 0, .string ⟨#[]⟩] 23)) w' from hAre)
  clear hAre hv hb2
  have hI := fun W => fInt (p3.size : Nat) W
  generalize intP p3.size = r at hI ⊢
  obtain ⟨r1, r2, r3⟩ := r
  unfold valV at *
  dsimp only at hI ⊢
  go_enter Tryz.func29, Tryz.ntmps29
  go_wp2_with fail
  with_reducible refine (HA.out).mono ?_
  rintro e w1 ⟨rfl, hb1⟩
  have o1 := o0.below hb1 o0.lt
  have B1 := B0.trans (hb1.mono B0.size)
  clear hb1
  have zp0 := (B1.cell (p := ad) hab).trans pc0
  have zp1 := (B1.cell (p := ⟨ad.block, ad.off + 1, none⟩) hab).trans pc1
  have zp2 := (B1.cell (p := ⟨ad.block, ad.off + 2, none⟩) hab).trans pc2
  go_wp2_with fail
  with_reducible refine (hI _).mono ?_
  rintro e w2 ⟨rfl, hb2⟩
  have o2 := o1.below hb2 o1.lt
  have B2 := B1.trans (hb2.mono B1.size)
  clear hb2
  have d0 := o2.cell 0; have e0 := o2.free 0; have d1 := o2.cell 1; have e1 := o2.free 1; have d2 := o2.cell 2; have e2 := o2.free 2; (try simp only [List.getElem?_toArray, List.getElem?_cons_zero, List.getElem?_cons_succ] at d0 d1 d2)
  go_wp2
  (try simp only [Exit.inBlock, Exit.then]); refine bodyPost_ret_by (results_cell_row1 (by rfl) _ _ (w.heap.size) _ (by rfl) (load_val (((o2.store 0 _).store 1 _).store 2 _))) ?_ ?_; (focus rfl); refine ⟨rfl, ?_⟩
  (repeat' first | (with_reducible first | exact Below.refl _ _ | assumption | refine Below.alloc ?_ ?_ _ | refine Below.drew ?_ | refine Below.setCell ?_ ?_ _ | refine Below.trans ?_ (Below.mono (by assumption) ?_)) | go_size)
 ·rw [if_neg h2]
  rw [show (p1 == 2) = false by simp [h2]] at hAre
  have HA := Lib.hid hAre
  have hI := fun W => fNull W
  unfold valV nullP at *
  dsimp only at hI ⊢
  clear hAre hv hb2
  go_enter Tryz.func29, Tryz.ntmps29
  go_wp2_with fail
  with_reducible refine (HA.out).mono ?_
  rintro e w1 ⟨rfl, hb1⟩
  have o1 := o0.below hb1 o0.lt
  have B1 := B0.trans (hb1.mono B0.size)
  clear hb1
  go_wp2_with fail
  with_reducible refine (hI _).mono ?_
  rintro e w2 ⟨rfl, hb2⟩
  have o2 := o1.below hb2 o1.lt
  have B2 := B1.trans (hb2.mono B1.size)
  clear hb2
  have d0 := o2.cell 0; have e0 := o2.free 0; have d1 := o2.cell 1; have e1 := o2.free 1; have d2 := o2.cell 2; have e2 := o2.free 2; (try simp only [List.getElem?_toArray, List.getElem?_cons_zero, List.getElem?_cons_succ] at d0 d1 d2)
  go_wp2
  (try simp only [Exit.inBlock, Exit.then]); refine bodyPost_ret_by (results_cell_row1 (by rfl) _ _ (w.heap.size) _ (by rfl) (load_val (((o2.store 0 _).store 1 _).store 2 _))) ?_ ?_; (focus rfl); refine ⟨rfl, ?_⟩
  (repeat' first | (with_reducible first | exact Below.refl _ _ | assumption | refine Below.alloc ?_ ?_ _ | refine Below.drew ?_ | refine Below.setCell ?_ ?_ _ | refine Below.trans ?_ (Below.mono (by assumption) ?_)) | go_size)
theorem rIf_any (ad : Addr) (c : Nat) (p q t : Vl) (w : World) (L : Nat) (hv : RdV w L w.heap.size (.slice (some ad) 3 c) [p, q, t]) :
  Calls Tryz.prog 31 #[.int .i64 22, .slice (some ad) 3 c] w fun e w' => e = .returned (valV (if truP p = 2 then q else t)) ∧ Below w.heap.size w w' := by
 have o0 := own_onez w
 have B0 := bel_mk w (.cells #[.int .i64 0, .int .i64 0, .string ⟨#[]⟩] 23)
 obtain ⟨hab, pc0, pc1, pc2⟩ := rdV_at0 hv (p := p) rfl
 obtain ⟨_, qc0, qc1, qc2⟩ := rdV_atk 1 (by decide) hv (p := q) rfl
 obtain ⟨_, tc0, tc1, tc2⟩ := rdV_atk 2 (by decide) hv (p := t) rfl
 have HT := Lib.hid (fun W => fTruth p W)
 generalize truP p = tp at *
 obtain ⟨p1, p2, p3⟩ := p
 obtain ⟨q1, q2, q3⟩ := q
 obtain ⟨t1, t2, t3⟩ := t
 unfold valV at *
 dsimp only at *
 have zp0 := (B0.cell (p := ad) hab).trans pc0
 have zp1 := (B0.cell (p := ⟨ad.block, ad.off + 1, none⟩) hab).trans pc1
 have zp2 := (B0.cell (p := ⟨ad.block, ad.off + 2, none⟩) hab).trans pc2
 by_cases h2 : tp = 2
 ·subst h2
  rw [if_pos rfl]
  dsimp only
  clear hv
  go_enter Tryz.func31, Tryz.ntmps31
  go_wp2_with fail
  with_reducible refine (HT.out _).mono ?_
  rintro e w1 ⟨rfl, hb1⟩
  have o1 := o0.below hb1 o0.lt
  have B1 := B0.trans (hb1.mono B0.size)
  clear hb1
  have yq0 := (B1.cell (p := ⟨ad.block, ad.off + 3, none⟩) hab).trans qc0
  have yq1 := (B1.cell (p := ⟨ad.block, ad.off + 3 + 1, none⟩) hab).trans qc1
  have yq2 := (B1.cell (p := ⟨ad.block, ad.off + 3 + 2, none⟩) hab).trans qc2
  clear zp0 zp1 zp2
  have d0 := o1.cell 0; have e0 := o1.free 0; have d1 := o1.cell 1; have e1 := o1.free 1; have d2 := o1.cell 2; have e2 := o1.free 2; (try simp only [List.getElem?_toArray, List.getElem?_cons_zero, List.getElem?_cons_succ] at d0 d1 d2)
  go_wp2
  (try simp only [Exit.inBlock, Exit.then]); refine bodyPost_ret_by (results_cell_row1 (by rfl) _ _ (w.heap.size) _ (by rfl) (load_val (((o1.store 0 _).store 1 _).store 2 _))) ?_ ?_; (focus rfl); refine ⟨rfl, ?_⟩
  (repeat' first | (with_reducible first | exact Below.refl _ _ | assumption | refine Below.alloc ?_ ?_ _ | refine Below.drew ?_ | refine Below.setCell ?_ ?_ _ | refine Below.trans ?_ (Below.mono (by assumption) ?_)) | go_size)
 ·rw [if_neg h2]
  dsimp only
  clear hv
  go_enter Tryz.func31, Tryz.ntmps31
  go_wp2_with fail
  with_reducible refine (HT.out _).mono ?_
  rintro e w1 ⟨rfl, hb1⟩
  have o1 := o0.below hb1 o0.lt
  have B1 := B0.trans (hb1.mono B0.size)
  clear hb1
  have yt0 := (B1.cell (p := ⟨ad.block, ad.off + 6, none⟩) hab).trans tc0
  have yt1 := (B1.cell (p := ⟨ad.block, ad.off + 6 + 1, none⟩) hab).trans tc1
  have yt2 := (B1.cell (p := ⟨ad.block, ad.off + 6 + 2, none⟩) hab).trans tc2
  clear zp0 zp1 zp2
  have d0 := o1.cell 0; have e0 := o1.free 0; have d1 := o1.cell 1; have e1 := o1.free 1; have d2 := o1.cell 2; have e2 := o1.free 2; (try simp only [List.getElem?_toArray, List.getElem?_cons_zero, List.getElem?_cons_succ] at d0 d1 d2)
  go_wp2
  (try simp only [Exit.inBlock, Exit.then]); refine bodyPost_ret_by (results_cell_row1 (by rfl) _ _ (w.heap.size) _ (by rfl) (load_val (((o1.store 0 _).store 1 _).store 2 _))) ?_ ?_; (focus rfl); refine ⟨rfl, ?_⟩
  (repeat' first | (with_reducible first | exact Below.refl _ _ | assumption | refine Below.alloc ?_ ?_ _ | refine Below.drew ?_ | refine Below.setCell ?_ ?_ _ | refine Below.trans ?_ (Below.mono (by assumption) ?_)) | go_size)
theorem rFst_any (v : Value) (l : List Vl) (w : World) (L : Nat) (hv : RdV w L w.heap.size v l) :
  Calls Tryz.prog 31 #[.int .i64 23, v] w fun e w' => e = .returned (valV (fstP l)) ∧ Below w.heap.size w w' := by
 obtain ⟨A, c, rfl, hl, hc⟩ := hv
 have HC := Lib.hid hc
 have HB0 := Lib.hid (bel_mk w (.cells #[.int .i64 0, .int .i64 0, .string ⟨#[]⟩] 23))
 have HO0 := Lib.hid (own_onez w)
 generalize hr : fstP l = r at *
 obtain ⟨r1, r2, r3⟩ := r
 have HR0 := Lib.hid hr
 unfold valV
 dsimp only
 clear hc hr
 go_enter Tryz.func31, Tryz.ntmps31
 go_wp2_with fail
 go_loopw [5] (fun i wr => ∃ k : Nat, k ≤ l.length ∧ i = .int .i64 k ∧ Hid (fstP (l.drop k) = (r1, r2, r3)) ∧ Hid (Own wr w.heap.size 23 #[.int .i64 0, .int .i64 0, .string ⟨#[]⟩]) ∧ Below w.heap.size w wr) (fun i _ => l.length - (intOf i).toNat)
 case atStart => exact ⟨0, Nat.zero_le _, rfl, HR0, HO0, HB0.out⟩
 case round =>
  clear HR0 HO0 HB0
  obtain ⟨k, hk, rfl, HR, HO, hbr⟩ := hrel
  have hbz := hbr.size
  by_cases hlt : k < l.length
  ·have hki : (k : Int) < l.length := by omega
   obtain ⟨ad, rfl, _, hab, c0, c1, c2⟩ := HC.out k _ (List.getElem?_eq_getElem hlt)
   have d0 := (hbr.cell (p := ad.add (k * 3)) (by rw [add_block]; exact hab)).trans c0
   have d1 := (hbr.cell (p := ⟨(ad.add (k * 3)).block, (ad.add (k * 3)).off + 1, none⟩) (by show (ad.add (k * 3)).block < _; rw [add_block]; exact hab)).trans c1
   have d2 := (hbr.cell (p := ⟨(ad.add (k * 3)).block, (ad.add (k * 3)).off + 2, none⟩) (by show (ad.add (k * 3)).block < _; rw [add_block]; exact hab)).trans c2
   have hdr := fstP_drop l k _ (List.getElem?_eq_getElem hlt)
   rw [HR.out] at hdr
   generalize l[k] = p1 at *
   obtain ⟨kd, n, s⟩ := p1
   dsimp only at hdr d0 d1 d2
   have HD := Lib.hid hdr
   clear hdr HR c0 c1 c2
   by_cases k0 : kd = 0
   ·subst k0
    have HF := Lib.hid (show fstP (l.drop (k + 1)) = (r1, r2, r3) by have := HD.out; simpa using this.symm)
    clear HD
    go_wp2
    go_round
    case rel => exact ⟨k + 1, by omega, by go_num, HF, HO, hbr⟩
    case measure => simp [intOf]; omega
   ·have hf : ((kd, n, s) : Vl) = (r1, r2, r3) := by have := HD.out; rw [if_neg k0] at this; exact this.symm
    injection hf with h1 h2
    injection h2 with h2 h3
    subst h1 h2 h3
    have e1 : (kd != 0) = true := by simp [k0]
    have ow := HO.out
    clear HD
    have d0a := ow.cell 0; have e0a := ow.free 0; have d1a := ow.cell 1; have e1a := ow.free 1; have d2a := ow.cell 2; have e2a := ow.free 2; (try simp only [List.getElem?_toArray, List.getElem?_cons_zero, List.getElem?_cons_succ] at d0a d1a d2a)
    go_wp2
    (try simp only [Exit.inBlock, Exit.then]); refine bodyPost_ret_by (results_cell_row1 (by rfl) _ _ (w.heap.size) _ (by rfl) (load_val (((ow.store 0 _).store 1 _).store 2 _))) ?_ ?_; (focus rfl); refine ⟨rfl, ?_⟩
    (repeat' first | (with_reducible first | exact Below.refl _ _ | assumption | refine Below.alloc ?_ ?_ _ | refine Below.drew ?_ | refine Below.setCell ?_ ?_ _ | refine Below.trans ?_ (Below.mono (by assumption) ?_)) | go_size)
  ·have hki : ¬ (k : Int) < l.length := by omega
   have HF := Lib.hid (show nullP = (r1, r2, r3) by have := HR.out; rw [List.drop_eq_nil_of_le (by omega)] at this; exact this)
   have hN := fun W => fNull W
   rw [HF.out] at hN
   unfold valV at hN
   dsimp only at hN
   have HN := Lib.hid hN
   clear hN HF HR
   have o0 := HO.out
   have B0 := hbr
   go_wp2_with fail
   with_reducible refine (HN.out _).mono ?_
   rintro e w1 ⟨rfl, hb1⟩
   have o1 := o0.below hb1 o0.lt
   have B1 := B0.trans (hb1.mono B0.size)
   clear hb1
   have d0 := o1.cell 0; have e0 := o1.free 0; have d1 := o1.cell 1; have e1 := o1.free 1; have d2 := o1.cell 2; have e2 := o1.free 2; (try simp only [List.getElem?_toArray, List.getElem?_cons_zero, List.getElem?_cons_succ] at d0 d1 d2)
   go_wp2
   (try simp only [Exit.inBlock, Exit.then]); refine bodyPost_ret_by (results_cell_row1 (by rfl) _ _ (w.heap.size) _ (by rfl) (load_val (((o1.store 0 _).store 1 _).store 2 _))) ?_ ?_; (focus rfl); refine ⟨rfl, ?_⟩
   (repeat' first | (with_reducible first | exact Below.refl _ _ | assumption | refine Below.alloc ?_ ?_ _ | refine Below.drew ?_ | refine Below.setCell ?_ ?_ _ | refine Below.trans ?_ (Below.mono (by assumption) ?_)) | go_size)
end Go.Proofs.YtdhemhmgenhmaaaGreat
