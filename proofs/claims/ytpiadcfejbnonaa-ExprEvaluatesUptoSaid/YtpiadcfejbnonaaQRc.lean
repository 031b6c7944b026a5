import Derived.Test.YtpiadcfejbnonaaQRa
import Derived.WalkKit
import Derived.WalkSpells
import Derived.WalkLawsBesides
import Derived.Deep.QuietTactic
import Derived.BigQuiet
import Derived.Handy
import Derived.Lib.Hide
import Derived.Deep.RegionHeld3
import Derived.Test.YtpiadcfejbnonaaMXb
/-
  What the functions of the reference's Eval answer: texts, choices, leaves. Conditions: lengths.
-/
namespace Go.Proofs.Ytpiadcfejbnonaa
set_option linter.unusedVariables false
set_option linter.unusedSimpArgs false
set_option linter.unusedVariables false
set_option linter.unusedSimpArgs false
set_option linter.unusedVariables false
set_option linter.unusedSimpArgs false
set_option maxRecDepth 100000
open Go.RowKit

set_option maxRecDepth 100000 in
set_option maxHeartbeats 6400000 in
theorem rLen_any (ad : Addr) (c : Nat) (p : Vl) (w : World) (L : Nat) (hv : RdV w L w.heap.size (.slice (some ad) 1 c) [p]) :
    Calls Try.prog 60 #[.int .i64 20, .slice (some ad) 1 c] w fun e w' => e = .returned (valV (lenP p)) ∧ Below w.heap.size w w' := by
  have o0 := own_onez w
  have B0 := bel_mk w (.cells #[.int .i64 0, .int .i64 0, .string ⟨#[]⟩] 23)
  obtain ⟨hab, pc0, pc1, pc2⟩ := rdV_at0 hv (p := p) rfl
  have hAre := rAre_any _ [p] 2 _ L (hv.step B0 (Nat.le_refl _))
  unfold lenP
  have hb2 : areP 2 [p] = (p.1 == 2) := by simp [areP]
  rw [hb2] at hAre
  obtain ⟨p1, p2, p3⟩ := p
  dsimp only at *
  by_cases h2 : p1 = 2
  · subst h2
    rw [if_pos rfl]
    have HA := Lib.hid (show Calls Try.prog 58 #[.slice (some ad) 1 c, .int .i64 2] (w.alloc (.cells #[.int .i64 0, .int .i64 0, .string ⟨#[]⟩] 23)) fun e w' => e = .returned (.bool true) ∧ Below (w.alloc (.cells #[.int .i64 0, .int .i64 0, .string ⟨#[]⟩] 23)).heap.size (w.alloc (.cells #[.int .i64 0, .int .i64 0, .string ⟨#[]⟩] 23)) w' from hAre)
    clear hAre hv hb2
    have hI := fun W => fInt (p3.size : Nat) W
    generalize intP p3.size = r at hI ⊢
    obtain ⟨r1, r2, r3⟩ := r
    unfold valV at *
    dsimp only at hI ⊢
    go_enter Try.func60, Try.ntmps60
    go_wp2_with fail
    with_reducible refine (HA.out).mono ?_
    rintro e w1 ⟨rfl, hb1⟩
    have o1 := o0.below hb1 o0.lt
    have B1 := B0.trans (hb1.mono B0.size)
    clear hb1
    have zp0 := (B1.cell (p := ad) hab).trans pc0
    have zp1 := (B1.cell (p := ⟨ad.block, ad.off + 1, none⟩) hab).trans pc1
    have zp2 := (B1.cell (p := ⟨ad.block, ad.off + 2, none⟩) hab).trans pc2
    go_wp2_with fail
    with_reducible refine (hI _).mono ?_
    rintro e w2 ⟨rfl, hb2⟩
    have o2 := o1.below hb2 o1.lt
    have B2 := B1.trans (hb2.mono B1.size)
    clear hb2
    have d0 := o2.cell 0; have e0 := o2.free 0; have d1 := o2.cell 1; have e1 := o2.free 1; have d2 := o2.cell 2; have e2 := o2.free 2; (try simp only [List.getElem?_toArray, List.getElem?_cons_zero, List.getElem?_cons_succ] at d0 d1 d2)
    go_wp2
    (try simp only [Exit.inBlock, Exit.then]); refine bodyPost_ret_by (results_cell_row1 (by rfl) _ _ (w.heap.size) _ (by rfl) (load_val (((o2.store 0 _).store 1 _).store 2 _))) ?_ ?_; (focus rfl); refine ⟨rfl, ?_⟩
    (repeat' (first | (with_reducible exact Below.refl _ _) | (with_reducible assumption) | (with_reducible refine Below.alloc ?_ ?_ _) | (with_reducible refine Below.drew ?_) | (with_reducible refine Below.setCell ?_ ?_ _) | (with_reducible refine Below.trans ?_ (Below.mono (by assumption) ?_)) | go_size))
  · rw [if_neg h2]
    rw [show (p1 == 2) = false by simp [h2]] at hAre
    have HA := Lib.hid hAre
    have hI := fun W => fNull W
    unfold valV nullP at *
    dsimp only at hI ⊢
    clear hAre hv hb2
    go_enter Try.func60, Try.ntmps60
    go_wp2_with fail
    with_reducible refine (HA.out).mono ?_
    rintro e w1 ⟨rfl, hb1⟩
    have o1 := o0.below hb1 o0.lt
    have B1 := B0.trans (hb1.mono B0.size)
    clear hb1
    go_wp2_with fail
    with_reducible refine (hI _).mono ?_
    rintro e w2 ⟨rfl, hb2⟩
    have o2 := o1.below hb2 o1.lt
    have B2 := B1.trans (hb2.mono B1.size)
    clear hb2
    have d0 := o2.cell 0; have e0 := o2.free 0; have d1 := o2.cell 1; have e1 := o2.free 1; have d2 := o2.cell 2; have e2 := o2.free 2; (try simp only [List.getElem?_toArray, List.getElem?_cons_zero, List.getElem?_cons_succ] at d0 d1 d2)
    go_wp2
    (try simp only [Exit.inBlock, Exit.then]); refine bodyPost_ret_by (results_cell_row1 (by rfl) _ _ (w.heap.size) _ (by rfl) (load_val (((o2.store 0 _).store 1 _).store 2 _))) ?_ ?_; (focus rfl); refine ⟨rfl, ?_⟩
    (repeat' (first | (with_reducible exact Below.refl _ _) | (with_reducible assumption) | (with_reducible refine Below.alloc ?_ ?_ _) | (with_reducible refine Below.drew ?_) | (with_reducible refine Below.setCell ?_ ?_ _) | (with_reducible refine Below.trans ?_ (Below.mono (by assumption) ?_)) | go_size))
set_option maxRecDepth 100000 in
set_option maxHeartbeats 6400000 in
theorem rIf_any (ad : Addr) (c : Nat) (p q t : Vl) (w : World) (L : Nat) (hv : RdV w L w.heap.size (.slice (some ad) 3 c) [p, q, t]) :
    Calls Try.prog 62 #[.int .i64 22, .slice (some ad) 3 c] w fun e w' => e = .returned (valV (if truP p = 2 then q else t)) ∧ Below w.heap.size w w' := by
  have o0 := own_onez w
  have B0 := bel_mk w (.cells #[.int .i64 0, .int .i64 0, .string ⟨#[]⟩] 23)
  obtain ⟨hab, pc0, pc1, pc2⟩ := rdV_at0 hv (p := p) rfl
  obtain ⟨_, qc0, qc1, qc2⟩ := rdV_atk 1 (by decide) hv (p := q) rfl
  obtain ⟨_, tc0, tc1, tc2⟩ := rdV_atk 2 (by decide) hv (p := t) rfl
  have HT := Lib.hid (fun W => fTruth p W)
  generalize truP p = tp at *
  obtain ⟨p1, p2, p3⟩ := p
  obtain ⟨q1, q2, q3⟩ := q
  obtain ⟨t1, t2, t3⟩ := t
  unfold valV at *
  dsimp only at *
  have zp0 := (B0.cell (p := ad) hab).trans pc0
  have zp1 := (B0.cell (p := ⟨ad.block, ad.off + 1, none⟩) hab).trans pc1
  have zp2 := (B0.cell (p := ⟨ad.block, ad.off + 2, none⟩) hab).trans pc2
  by_cases h2 : tp = 2
  · subst h2
    rw [if_pos rfl]
    dsimp only
    clear hv
    go_enter Try.func62, Try.ntmps62
    go_wp2_with fail
    with_reducible refine (HT.out _).mono ?_
    rintro e w1 ⟨rfl, hb1⟩
    have o1 := o0.below hb1 o0.lt
    have B1 := B0.trans (hb1.mono B0.size)
    clear hb1
    have yq0 := (B1.cell (p := ⟨ad.block, ad.off + 3, none⟩) hab).trans qc0
    have yq1 := (B1.cell (p := ⟨ad.block, ad.off + 3 + 1, none⟩) hab).trans qc1
    have yq2 := (B1.cell (p := ⟨ad.block, ad.off + 3 + 2, none⟩) hab).trans qc2
    clear zp0 zp1 zp2
    have d0 := o1.cell 0; have e0 := o1.free 0; have d1 := o1.cell 1; have e1 := o1.free 1; have d2 := o1.cell 2; have e2 := o1.free 2; (try simp only [List.getElem?_toArray, List.getElem?_cons_zero, List.getElem?_cons_succ] at d0 d1 d2)
    go_wp2
    (try simp only [Exit.inBlock, Exit.then]); refine bodyPost_ret_by (results_cell_row1 (by rfl) _ _ (w.heap.size) _ (by rfl) (load_val (((o1.store 0 _).store 1 _).store 2 _))) ?_ ?_; (focus rfl); refine ⟨rfl, ?_⟩
    (repeat' (first | (with_reducible exact Below.refl _ _) | (with_reducible assumption) | (with_reducible refine Below.alloc ?_ ?_ _) | (with_reducible refine Below.drew ?_) | (with_reducible refine Below.setCell ?_ ?_ _) | (with_reducible refine Below.trans ?_ (Below.mono (by assumption) ?_)) | go_size))
  · rw [if_neg h2]
    dsimp only
    clear hv
    go_enter Try.func62, Try.ntmps62
    go_wp2_with fail
    with_reducible refine (HT.out _).mono ?_
    rintro e w1 ⟨rfl, hb1⟩
    have o1 := o0.below hb1 o0.lt
    have B1 := B0.trans (hb1.mono B0.size)
    clear hb1
    have yt0 := (B1.cell (p := ⟨ad.block, ad.off + 6, none⟩) hab).trans tc0
    have yt1 := (B1.cell (p := ⟨ad.block, ad.off + 6 + 1, none⟩) hab).trans tc1
    have yt2 := (B1.cell (p := ⟨ad.block, ad.off + 6 + 2, none⟩) hab).trans tc2
    clear zp0 zp1 zp2
    have d0 := o1.cell 0; have e0 := o1.free 0; have d1 := o1.cell 1; have e1 := o1.free 1; have d2 := o1.cell 2; have e2 := o1.free 2; (try simp only [List.getElem?_toArray, List.getElem?_cons_zero, List.getElem?_cons_succ] at d0 d1 d2)
    go_wp2
    (try simp only [Exit.inBlock, Exit.then]); refine bodyPost_ret_by (results_cell_row1 (by rfl) _ _ (w.heap.size) _ (by rfl) (load_val (((o1.store 0 _).store 1 _).store 2 _))) ?_ ?_; (focus rfl); refine ⟨rfl, ?_⟩
    (repeat' (first | (with_reducible exact Below.refl _ _) | (with_reducible assumption) | (with_reducible refine Below.alloc ?_ ?_ _) | (with_reducible refine Below.drew ?_) | (with_reducible refine Below.setCell ?_ ?_ _) | (with_reducible refine Below.trans ?_ (Below.mono (by assumption) ?_)) | go_size))
set_option maxRecDepth 100000 in
set_option maxHeartbeats 6400000 in
theorem rFst_any (v : Value) (l : List Vl) (w : World) (L : Nat) (hv : RdV w L w.heap.size v l) :
    Calls Try.prog 62 #[.int .i64 23, v] w fun e w' => e = .returned (valV (fstP l)) ∧ Below w.heap.size w w' := by
  obtain ⟨A, c, rfl, hl, hc⟩ := hv
  have HC := Lib.hid hc
  have HB0 := Lib.hid (bel_mk w (.cells #[.int .i64 0, .int .i64 0, .string ⟨#[]⟩] 23))
  have HO0 := Lib.hid (own_onez w)
  generalize hr : fstP l = r at *
  obtain ⟨r1, r2, r3⟩ := r
  have HR0 := Lib.hid hr
  unfold valV
  dsimp only
  clear hc hr
  go_enter Try.func62, Try.ntmps62
  go_wp2_with fail
  go_loopw [5] (fun i wr => ∃ k : Nat, k ≤ l.length ∧ i = .int .i64 k ∧ Hid (fstP (l.drop k) = (r1, r2, r3)) ∧ Hid (Own wr w.heap.size 23 #[.int .i64 0, .int .i64 0, .string ⟨#[]⟩]) ∧ Below w.heap.size w wr) (fun i _ => l.length - (intOf i).toNat)
  case atStart => exact ⟨0, Nat.zero_le _, rfl, HR0, HO0, HB0.out⟩
  case round =>
    clear HR0 HO0 HB0
    obtain ⟨k, hk, rfl, HR, HO, hbr⟩ := hrel
    have hbz := hbr.size
    by_cases hlt : k < l.length
    · have hki : (k : Int) < l.length := by omega
      obtain ⟨ad, rfl, _, hab, c0, c1, c2⟩ := HC.out k _ (List.getElem?_eq_getElem hlt)
      have d0 := (hbr.cell (p := ad.add (k * 3)) (by rw [add_block]; exact hab)).trans c0
      have d1 := (hbr.cell (p := ⟨(ad.add (k * 3)).block, (ad.add (k * 3)).off + 1, none⟩) (by show (ad.add (k * 3)).block < _; rw [add_block]; exact hab)).trans c1
      have d2 := (hbr.cell (p := ⟨(ad.add (k * 3)).block, (ad.add (k * 3)).off + 2, none⟩) (by show (ad.add (k * 3)).block < _; rw [add_block]; exact hab)).trans c2
      have hdr := fstP_drop l k _ (List.getElem?_eq_getElem hlt)
      rw [HR.out] at hdr
      generalize l[k] = p1 at *
      obtain ⟨kd, n, s⟩ := p1
      dsimp only at hdr d0 d1 d2
      have HD := Lib.hid hdr
      clear hdr HR c0 c1 c2
      by_cases k0 : kd = 0
      · subst k0
        have HF := Lib.hid (show fstP (l.drop (k + 1)) = (r1, r2, r3) by have := HD.out; simpa using this.symm)
        clear HD
        go_wp2
        go_round
        case rel => exact ⟨k + 1, by omega, by go_num, HF, HO, hbr⟩
        case measure => simp [intOf]; omega
      · have hf : ((kd, n, s) : Vl) = (r1, r2, r3) := by have := HD.out; rw [if_neg k0] at this; exact this.symm
        injection hf with h1 h2
        injection h2 with h2 h3
        subst h1 h2 h3
        have e1 : (kd != 0) = true := by simp [k0]
        have ow := HO.out
        clear HD
        have d0a := ow.cell 0; have e0a := ow.free 0; have d1a := ow.cell 1; have e1a := ow.free 1; have d2a := ow.cell 2; have e2a := ow.free 2; (try simp only [List.getElem?_toArray, List.getElem?_cons_zero, List.getElem?_cons_succ] at d0a d1a d2a)
        go_wp2
        (try simp only [Exit.inBlock, Exit.then]); refine bodyPost_ret_by (results_cell_row1 (by rfl) _ _ (w.heap.size) _ (by rfl) (load_val (((ow.store 0 _).store 1 _).store 2 _))) ?_ ?_; (focus rfl); refine ⟨rfl, ?_⟩
        (repeat' (first | (with_reducible exact Below.refl _ _) | (with_reducible assumption) | (with_reducible refine Below.alloc ?_ ?_ _) | (with_reducible refine Below.drew ?_) | (with_reducible refine Below.setCell ?_ ?_ _) | (with_reducible refine Below.trans ?_ (Below.mono (by assumption) ?_)) | go_size))
    · have hki : ¬ (k : Int) < l.length := by omega
      have HF := Lib.hid (show nullP = (r1, r2, r3) by have := HR.out; rw [List.drop_eq_nil_of_le (by omega)] at this; exact this)
      have hN := fun W => fNull W
      rw [HF.out] at hN
      unfold valV at hN
      dsimp only at hN
      have HN := Lib.hid hN
      clear hN HF HR
      have o0 := HO.out
      have B0 := hbr
      go_wp2_with fail
      with_reducible refine (HN.out _).mono ?_
      rintro e w1 ⟨rfl, hb1⟩
      have o1 := o0.below hb1 o0.lt
      have B1 := B0.trans (hb1.mono B0.size)
      clear hb1
      have d0 := o1.cell 0; have e0 := o1.free 0; have d1 := o1.cell 1; have e1 := o1.free 1; have d2 := o1.cell 2; have e2 := o1.free 2; (try simp only [List.getElem?_toArray, List.getElem?_cons_zero, List.getElem?_cons_succ] at d0 d1 d2)
      go_wp2
      (try simp only [Exit.inBlock, Exit.then]); refine bodyPost_ret_by (results_cell_row1 (by rfl) _ _ (w.heap.size) _ (by rfl) (load_val (((o1.store 0 _).store 1 _).store 2 _))) ?_ ?_; (focus rfl); refine ⟨rfl, ?_⟩
      (repeat' (first | (with_reducible exact Below.refl _ _) | (with_reducible assumption) | (with_reducible refine Below.alloc ?_ ?_ _) | (with_reducible refine Below.drew ?_) | (with_reducible refine Below.setCell ?_ ?_ _) | (with_reducible refine Below.trans ?_ (Below.mono (by assumption) ?_)) | go_size))
end Go.Proofs.Ytpiadcfejbnonaa
/-
  What the functions of the reference's Eval answer: two texts joined, constants and columns. Conditions: lengths.
-/
namespace Go.Proofs.Ytpiadcfejbnonaa
set_option linter.unusedVariables false
set_option linter.unusedSimpArgs false
set_option linter.unusedVariables false
set_option linter.unusedSimpArgs false
set_option linter.unusedVariables false
set_option linter.unusedSimpArgs false
set_option maxRecDepth 100000
open Go.RowKit

theorem add_str (p q : ByteArray) (h1 : p.size ≤ 1000) (h2 : q.size ≤ 1000) (W : World) : (binOp .add 9 (.string p) (.string q)).run Try.prog W = .ok (.string (p ++ q)) W := by
  simp [binOp, go_sem]
  omega
set_option maxRecDepth 100000 in
set_option maxHeartbeats 6400000 in
theorem rCat_any (ad : Addr) (c : Nat) (p q : Vl) (w : World) (L : Nat) (hv : RdV w L w.heap.size (.slice (some ad) 2 c) [p, q]) (hs1 : p.2.2.size ≤ 1000) (hs2 : q.2.2.size ≤ 1000) :
    Calls Try.prog 60 #[.int .i64 19, .slice (some ad) 2 c] w fun e w' => e = .returned (valV (catP p q)) ∧ Below w.heap.size w w' := by
  have o0 := own_onez w
  have B0 := bel_mk w (.cells #[.int .i64 0, .int .i64 0, .string ⟨#[]⟩] 23)
  obtain ⟨hab, pc0, pc1, pc2⟩ := rdV_at0 hv (p := p) rfl
  obtain ⟨_, qc0, qc1, qc2⟩ := rdV_atk 1 (by decide) hv (p := q) rfl
  have hAre := rAre_any _ [p, q] 2 _ L (hv.step B0 (Nat.le_refl _))
  unfold catP
  have hb2 : areP 2 [p, q] = (p.1 == 2 && q.1 == 2) := by simp [areP]
  rw [hb2] at hAre
  obtain ⟨p1, p2, p3⟩ := p
  obtain ⟨q1, q2, q3⟩ := q
  dsimp only at *
  by_cases h2 : p1 = 2 ∧ q1 = 2
  · obtain ⟨rfl, rfl⟩ := h2
    rw [if_pos ⟨rfl, rfl⟩]
    have HA := Lib.hid (show Calls Try.prog 58 #[.slice (some ad) 2 c, .int .i64 2] (w.alloc (.cells #[.int .i64 0, .int .i64 0, .string ⟨#[]⟩] 23)) fun e w' => e = .returned (.bool true) ∧ Below (w.alloc (.cells #[.int .i64 0, .int .i64 0, .string ⟨#[]⟩] 23)).heap.size (w.alloc (.cells #[.int .i64 0, .int .i64 0, .string ⟨#[]⟩] 23)) w' from hAre)
    have HS := Lib.hid (show ∀ w', Below w.heap.size w w' → (Below w.heap.size w w' ∧ w'.cell? ⟨ad.block, ad.off + 2, none⟩ = some (.string p3) ∧ w'.cell? ⟨ad.block, ad.off + 3 + 2, none⟩ = some (.string q3)) from fun w' hb => ⟨hb, (hb.cell (p := ⟨ad.block, ad.off + 2, none⟩) hab).trans pc2, (hb.cell (p := ⟨ad.block, ad.off + 3 + 2, none⟩) hab).trans qc2⟩)
    have qq := fun W => add_str p3 q3 hs1 hs2 W
    clear hAre hv hb2 pc0 pc1 pc2 qc0 qc1 qc2
    have hI := fun W => fText (p3 ++ q3) W
    generalize txtP (p3 ++ q3) = r at hI ⊢
    obtain ⟨r1, r2, r3⟩ := r
    unfold valV at *
    dsimp only at hI ⊢
    go_enter Try.func60, Try.ntmps60
    go_wp2_with fail
    with_reducible refine (HA.out).mono ?_
    rintro e w1 ⟨rfl, hb1⟩
    have o1 := o0.below hb1 o0.lt
    have B1 := B0.trans (hb1.mono B0.size)
    clear hb1
    have HB5 := Lib.hid (show Below w.heap.size w w1.drew from B1.drew)
    have HO5 := Lib.hid (show Own w1.drew w.heap.size 23 #[.int .i64 0, .int .i64 0, .string ⟨#[]⟩] from o1)
    clear o0 B0 o1 B1
    have y0 := (HS.out _ HB5.out).2.1
    have y1 := (HS.out _ HB5.out).2.2
    go_wp2_with fail
    go_region_with (go_at_call 100; refine (hI _).mono ?_; rintro e w2 ⟨rfl, hb⟩; have hbW := HB5.out.trans (hb.mono HB5.out.size); have o2 := HO5.out.below hb HO5.out.lt; have f0 := o2.cell 0; have f1 := o2.cell 1; have f2 := o2.cell 2; have j0 := o2.free 0; have j1 := o2.free 1; have j2 := o2.free 2)
    all_goals
      go_wp2
      (try simp only [Exit.inBlock, Exit.then]); refine bodyPost_ret_by (results_cell_row1 (by rfl) _ _ (w.heap.size) _ (by rfl) (load_val (((o2.store 0 _).store 1 _).store 2 _))) ?_ ?_; (focus rfl); refine ⟨rfl, ?_⟩
      exact (((hbW.setCell (p := ⟨w.heap.size, 0, none⟩) (Nat.le_refl _) _).setCell (p := ⟨w.heap.size, 1, none⟩) (Nat.le_refl _) _).setCell (p := ⟨w.heap.size, 2, none⟩) (Nat.le_refl _) _)
  · rw [if_neg h2]
    have hbf : (p1 == 2 && q1 == 2) = false := by
      cases h : (p1 == 2 && q1 == 2) with
      | false => rfl
      | true => simp only [Bool.and_eq_true, beq_iff_eq] at h; exact absurd h h2
    rw [hbf] at hAre
    have HA := Lib.hid hAre
    have hI := fun W => fNull W
    unfold valV nullP at *
    dsimp only at hI ⊢
    clear hAre hv hb2
    go_enter Try.func60, Try.ntmps60
    go_wp2_with fail
    with_reducible refine (HA.out).mono ?_
    rintro e w1 ⟨rfl, hb1⟩
    have o1 := o0.below hb1 o0.lt
    have B1 := B0.trans (hb1.mono B0.size)
    clear hb1
    go_wp2_with fail
    with_reducible refine (hI _).mono ?_
    rintro e w2 ⟨rfl, hb2⟩
    have o2 := o1.below hb2 o1.lt
    have B2 := B1.trans (hb2.mono B1.size)
    clear hb2
    have d0 := o2.cell 0; have e0 := o2.free 0; have d1 := o2.cell 1; have e1 := o2.free 1; have d2 := o2.cell 2; have e2 := o2.free 2; (try simp only [List.getElem?_toArray, List.getElem?_cons_zero, List.getElem?_cons_succ] at d0 d1 d2)
    go_wp2
    (try simp only [Exit.inBlock, Exit.then]); refine bodyPost_ret_by (results_cell_row1 (by rfl) _ _ (w.heap.size) _ (by rfl) (load_val (((o2.store 0 _).store 1 _).store 2 _))) ?_ ?_; (focus rfl); refine ⟨rfl, ?_⟩
    (repeat' (first | (with_reducible exact Below.refl _ _) | (with_reducible assumption) | (with_reducible refine Below.alloc ?_ ?_ _) | (with_reducible refine Below.drew ?_) | (with_reducible refine Below.setCell ?_ ?_ _) | (with_reducible refine Below.trans ?_ (Below.mono (by assumption) ?_)) | go_size))
set_option maxRecDepth 100000 in
set_option maxHeartbeats 6400000 in
theorem rLeaf_1 (n k1 k2 : Int) (s nm : ByteArray) (A : Option Addr) (m c : Nat) (rv : Value) (w : World) (hv : Va.vldV k1 k2 s = true) :
    Calls Try.prog 52 #[.agg #[.int .i64 1, .int .i64 n, .int .i64 k1, .int .i64 k2, .string s, .string nm, .slice A m c], rv] w fun e w' => e = .returned (valV (k1, k2, s)) ∧ Below w.heap.size w w' := by
  have hV := fun W => Va.rValid_any k1 k2 s W
  rw [hv] at hV
  unfold Va.vV at hV
  have HV := Lib.hid hV
  unfold valV
  dsimp only
  have oV := own_three (w := w) (t := 23) (cs := #[.int .i64 k1, .int .i64 k2, .string s]) (.cells #[.int .i64 1, .int .i64 n, .int .i64 k1, .int .i64 k2, .string s, .string nm, .slice A m c] 26) (.cells #[.int .i64 0, .int .i64 0, .string ⟨#[]⟩] 23)
  have oR := (Va.own_two (w := w) (t := 23) (cs := #[.int .i64 0, .int .i64 0, .string ⟨#[]⟩]) (.cells #[.int .i64 1, .int .i64 n, .int .i64 k1, .int .i64 k2, .string s, .string nm, .slice A m c] 26)).alloc (.cells #[.int .i64 k1, .int .i64 k2, .string s] 23)
  have B0 : Below w.heap.size w (((w.alloc (.cells #[.int .i64 1, .int .i64 n, .int .i64 k1, .int .i64 k2, .string s, .string nm, .slice A m c] 26)).alloc (.cells #[.int .i64 0, .int .i64 0, .string ⟨#[]⟩] 23)).alloc (.cells #[.int .i64 k1, .int .i64 k2, .string s] 23)) := ((bel_mk w _).trans ((bel_mk _ _).mono (by simp))).trans ((bel_mk _ _).mono (by simp; omega))
  clear hV hv
  go_enter Try.func52, Try.ntmps52
  go_wp2_with fail
  with_reducible refine (HV.out _).mono ?_
  rintro e w1 ⟨rfl, hb1⟩
  have v1 := oV.below hb1 oV.lt
  have o1 := oR.below hb1 oR.lt
  have B1 := B0.trans (hb1.mono B0.size)
  clear hb1 oV oR B0
  have d0 := o1.cell 0; have e0 := o1.free 0; have d1 := o1.cell 1; have e1 := o1.free 1; have d2 := o1.cell 2; have e2 := o1.free 2; (try simp only [List.getElem?_toArray, List.getElem?_cons_zero, List.getElem?_cons_succ] at d0 d1 d2)
  have d0a := v1.cell 0; have e0a := v1.free 0; have d1a := v1.cell 1; have e1a := v1.free 1; have d2a := v1.cell 2; have e2a := v1.free 2; (try simp only [List.getElem?_toArray, List.getElem?_cons_zero, List.getElem?_cons_succ] at d0a d1a d2a)
  go_wp2
  (try simp only [Exit.inBlock, Exit.then]); refine bodyPost_ret_by (results_cell_row1 (by rfl) _ _ (w.heap.size + 1) _ (by rfl) (load_val (((o1.store 0 _).store 1 _).store 2 _))) ?_ ?_; (focus rfl); refine ⟨rfl, ?_⟩
  (repeat' (first | (with_reducible exact Below.refl _ _) | (with_reducible assumption) | (with_reducible refine Below.alloc ?_ ?_ _) | (with_reducible refine Below.drew ?_) | (with_reducible refine Below.setCell ?_ ?_ _) | (with_reducible refine Below.trans ?_ (Below.mono (by assumption) ?_)) | go_size))
theorem col_at (row : List Vl) (n : Int) : colP row n = nrmP (atP row n) := by
  unfold colP
  by_cases h0 : 0 ≤ n
  · rw [if_pos h0]
    obtain ⟨k, rfl⟩ := Int.eq_ofNat_of_zero_le h0
    rw [Int.toNat_natCast]
    by_cases hk : k < row.length
    · rw [List.getElem?_eq_getElem hk, atP_in row k hk]
    · rw [List.getElem?_eq_none (by omega), atP_out row k hk]; decide +kernel
  · rw [if_neg h0, atP_neg row n (by omega)]; decide +kernel
set_option maxRecDepth 100000 in
set_option maxHeartbeats 6400000 in
theorem rLeaf_2 (n k1 k2 : Int) (s nm : ByteArray) (A : Option Addr) (m c : Nat) (rv : Value) (row : List Vl) (w : World) (L : Nat) (hr : RdV w L w.heap.size rv row) :
    Calls Try.prog 52 #[.agg #[.int .i64 2, .int .i64 n, .int .i64 k1, .int .i64 k2, .string s, .string nm, .slice A m c], rv] w fun e w' => e = .returned (valV (colP row n)) ∧ Below w.heap.size w w' := by
  rw [col_at]
  have HAT := Lib.hid (fun (W : World) (h : Below w.heap.size w W) => rAt_any rv row n W L (hr.step h (Nat.le_refl _)))
  generalize atP row n = p at *
  obtain ⟨p1, p2, p3⟩ := p
  have hV := fun W => Va.rValid_any p1 p2 p3 W
  unfold Va.vV at hV
  have hN := fun W => fNull W
  unfold nrmP vldP valV nullP at *
  dsimp only at *
  have oV := own_three (w := w) (t := 23) (cs := #[.int .i64 k1, .int .i64 k2, .string s]) (.cells #[.int .i64 2, .int .i64 n, .int .i64 k1, .int .i64 k2, .string s, .string nm, .slice A m c] 26) (.cells #[.int .i64 0, .int .i64 0, .string ⟨#[]⟩] 23)
  have oR := (Va.own_two (w := w) (t := 23) (cs := #[.int .i64 0, .int .i64 0, .string ⟨#[]⟩]) (.cells #[.int .i64 2, .int .i64 n, .int .i64 k1, .int .i64 k2, .string s, .string nm, .slice A m c] 26)).alloc (.cells #[.int .i64 k1, .int .i64 k2, .string s] 23)
  have oE := ((Own.new w 26 #[.int .i64 2, .int .i64 n, .int .i64 k1, .int .i64 k2, .string s, .string nm, .slice A m c]).alloc (.cells #[.int .i64 0, .int .i64 0, .string ⟨#[]⟩] 23)).alloc (.cells #[.int .i64 k1, .int .i64 k2, .string s] 23)
  have x0 := oE.cell 0
  have x1 := oE.cell 1
  have B0 : Below w.heap.size w (((w.alloc (.cells #[.int .i64 2, .int .i64 n, .int .i64 k1, .int .i64 k2, .string s, .string nm, .slice A m c] 26)).alloc (.cells #[.int .i64 0, .int .i64 0, .string ⟨#[]⟩] 23)).alloc (.cells #[.int .i64 k1, .int .i64 k2, .string s] 23)) := ((bel_mk w _).trans ((bel_mk _ _).mono (by simp))).trans ((bel_mk _ _).mono (by simp; omega))
  have HV := Lib.hid hV
  obtain ⟨Ar, cr, rfl, _, _⟩ := hr
  clear hV oE
  cases hvv : Va.vldV p1 p2 p3
  · rw [hvv] at HV
    rw [if_neg (by simp)]
    dsimp only
    go_enter Try.func52, Try.ntmps52
    go_wp2_with fail
    with_reducible refine (HAT.out _ B0).mono ?_
    rintro e w1 ⟨rfl, hb1, _⟩
    have v1 := oV.below hb1 oV.lt
    have o1 := oR.below hb1 oR.lt
    have B1 := B0.trans (hb1.mono B0.size)
    clear hb1 x0 x1
    have v1s := ((v1.store 0 (.int .i64 p1)).store 1 (.int .i64 p2)).store 2 (.string p3)
    have o1s := ((o1.far (p := ⟨w.heap.size + 1 + 1, 0, none⟩) (by show w.heap.size + 1 ≠ w.heap.size + 1 + 1; omega) (.int .i64 p1)).far (p := ⟨w.heap.size + 1 + 1, 1, none⟩) (by show w.heap.size + 1 ≠ w.heap.size + 1 + 1; omega) (.int .i64 p2)).far (p := ⟨w.heap.size + 1 + 1, 2, none⟩) (by show w.heap.size + 1 ≠ w.heap.size + 1 + 1; omega) (.string p3)
    have B1s := ((B1.setCell (p := ⟨w.heap.size + 1 + 1, 0, none⟩) (by show w.heap.size ≤ w.heap.size + 1 + 1; omega) (.int .i64 p1)).setCell (p := ⟨w.heap.size + 1 + 1, 1, none⟩) (by show w.heap.size ≤ w.heap.size + 1 + 1; omega) (.int .i64 p2)).setCell (p := ⟨w.heap.size + 1 + 1, 2, none⟩) (by show w.heap.size ≤ w.heap.size + 1 + 1; omega) (.string p3)
    have d0a := v1.cell 0; have e0a := v1.free 0; have d1a := v1.cell 1; have e1a := v1.free 1; have d2a := v1.cell 2; have e2a := v1.free 2; (try simp only [List.getElem?_toArray, List.getElem?_cons_zero, List.getElem?_cons_succ] at d0a d1a d2a)
    have y0 := v1s.cell 0
    have y1 := v1s.cell 1
    have y2 := v1s.cell 2
    simp only [List.setIfInBounds_toArray, List.set_cons_zero, List.set_cons_succ, List.getElem?_toArray, List.getElem?_cons_zero, List.getElem?_cons_succ] at y0 y1 y2 v1s
    go_wp2_with fail
    with_reducible refine (HV.out _).mono ?_
    rintro e w2 ⟨rfl, hb2⟩
    have v2 := v1s.below hb2 v1s.lt
    have o2 := o1s.below hb2 o1s.lt
    have B2 := B1s.trans (hb2.mono B1s.size)
    clear hb2 v1 o1 B1 v1s o1s B1s y0 y1 y2
    go_wp2_with fail
    with_reducible refine (hN _).mono ?_
    rintro e w3 ⟨rfl, hb3⟩
    have o3 := o2.below hb3 o2.lt
    have B3 := B2.trans (hb3.mono B2.size)
    clear hb3 o2 v2
    have d0 := o3.cell 0; have e0 := o3.free 0; have d1 := o3.cell 1; have e1 := o3.free 1; have d2 := o3.cell 2; have e2 := o3.free 2; (try simp only [List.getElem?_toArray, List.getElem?_cons_zero, List.getElem?_cons_succ] at d0 d1 d2)
    go_wp2
    (try simp only [Exit.inBlock, Exit.then]); refine bodyPost_ret_by (results_cell_row1 (by rfl) _ _ (w.heap.size + 1) _ (by rfl) (load_val (((o3.store 0 _).store 1 _).store 2 _))) ?_ ?_; (focus rfl); refine ⟨rfl, ?_⟩
    (repeat' (first | (with_reducible exact Below.refl _ _) | (with_reducible assumption) | (with_reducible refine Below.alloc ?_ ?_ _) | (with_reducible refine Below.drew ?_) | (with_reducible refine Below.setCell ?_ ?_ _) | (with_reducible refine Below.trans ?_ (Below.mono (by assumption) ?_)) | go_size))
  · rw [hvv] at HV
    rw [if_pos rfl]
    dsimp only
    go_enter Try.func52, Try.ntmps52
    go_wp2_with fail
    with_reducible refine (HAT.out _ B0).mono ?_
    rintro e w1 ⟨rfl, hb1, _⟩
    have v1 := oV.below hb1 oV.lt
    have o1 := oR.below hb1 oR.lt
    have B1 := B0.trans (hb1.mono B0.size)
    clear hb1 x0 x1
    have v1s := ((v1.store 0 (.int .i64 p1)).store 1 (.int .i64 p2)).store 2 (.string p3)
    have o1s := ((o1.far (p := ⟨w.heap.size + 1 + 1, 0, none⟩) (by show w.heap.size + 1 ≠ w.heap.size + 1 + 1; omega) (.int .i64 p1)).far (p := ⟨w.heap.size + 1 + 1, 1, none⟩) (by show w.heap.size + 1 ≠ w.heap.size + 1 + 1; omega) (.int .i64 p2)).far (p := ⟨w.heap.size + 1 + 1, 2, none⟩) (by show w.heap.size + 1 ≠ w.heap.size + 1 + 1; omega) (.string p3)
    have B1s := ((B1.setCell (p := ⟨w.heap.size + 1 + 1, 0, none⟩) (by show w.heap.size ≤ w.heap.size + 1 + 1; omega) (.int .i64 p1)).setCell (p := ⟨w.heap.size + 1 + 1, 1, none⟩) (by show w.heap.size ≤ w.heap.size + 1 + 1; omega) (.int .i64 p2)).setCell (p := ⟨w.heap.size + 1 + 1, 2, none⟩) (by show w.heap.size ≤ w.heap.size + 1 + 1; omega) (.string p3)
    have d0a := v1.cell 0; have e0a := v1.free 0; have d1a := v1.cell 1; have e1a := v1.free 1; have d2a := v1.cell 2; have e2a := v1.free 2; (try simp only [List.getElem?_toArray, List.getElem?_cons_zero, List.getElem?_cons_succ] at d0a d1a d2a)
    have y0 := v1s.cell 0
    have y1 := v1s.cell 1
    have y2 := v1s.cell 2
    simp only [List.setIfInBounds_toArray, List.set_cons_zero, List.set_cons_succ, List.getElem?_toArray, List.getElem?_cons_zero, List.getElem?_cons_succ] at y0 y1 y2 v1s
    go_wp2_with fail
    with_reducible refine (HV.out _).mono ?_
    rintro e w2 ⟨rfl, hb2⟩
    have v2 := v1s.below hb2 v1s.lt
    have o2 := o1s.below hb2 o1s.lt
    have B2 := B1s.trans (hb2.mono B1s.size)
    clear hb2 v1 o1 B1 v1s o1s B1s y0 y1 y2
    have d0 := o2.cell 0; have e0 := o2.free 0; have d1 := o2.cell 1; have e1 := o2.free 1; have d2 := o2.cell 2; have e2 := o2.free 2; (try simp only [List.getElem?_toArray, List.getElem?_cons_zero, List.getElem?_cons_succ] at d0 d1 d2)
    have d0a := v2.cell 0; have e0a := v2.free 0; have d1a := v2.cell 1; have e1a := v2.free 1; have d2a := v2.cell 2; have e2a := v2.free 2; (try simp only [List.getElem?_toArray, List.getElem?_cons_zero, List.getElem?_cons_succ] at d0a d1a d2a)
    go_wp2
    (try simp only [Exit.inBlock, Exit.then]); refine bodyPost_ret_by (results_cell_row1 (by rfl) _ _ (w.heap.size + 1) _ (by rfl) (load_val (((o2.store 0 _).store 1 _).store 2 _))) ?_ ?_; (focus rfl); refine ⟨rfl, ?_⟩
    (repeat' (first | (with_reducible exact Below.refl _ _) | (with_reducible assumption) | (with_reducible refine Below.alloc ?_ ?_ _) | (with_reducible refine Below.drew ?_) | (with_reducible refine Below.setCell ?_ ?_ _) | (with_reducible refine Below.trans ?_ (Below.mono (by assumption) ?_)) | go_size))
end Go.Proofs.Ytpiadcfejbnonaa
/-
  What the functions of the reference's Eval answer: relations between periods. Conditions: lengths.
-/
namespace Go.Proofs.Ytpiadcfejbnonaa
set_option linter.unusedVariables false
set_option linter.unusedSimpArgs false
set_option linter.unusedVariables false
set_option linter.unusedSimpArgs false
set_option linter.unusedVariables false
set_option linter.unusedSimpArgs false
set_option maxRecDepth 100000
open Go.RowKit

set_option maxRecDepth 100000 in
set_option maxHeartbeats 6400000 in
theorem rRelated_any (rel : Int) (ad : Addr) (cp : Nat) (p q r t : Vl) (w : World) (L : Nat) (hv : RdV w L w.heap.size (.slice (some ad) 4 cp) [p, q, r, t]) :
    Calls Try.prog 63 #[.int .i64 rel, .slice (some ad) 4 cp] w fun e w' => e = .returned (valV (relP rel [p, q, r, t])) ∧ Below w.heap.size w w' := by
  have o0 := own_onez w
  have B0 := bel_mk w (.cells #[.int .i64 0, .int .i64 0, .string ⟨#[]⟩] 23)
  obtain ⟨hab, _, pc1, _⟩ := rdV_at0 hv (p := p) rfl
  obtain ⟨_, _, qc1, _⟩ := rdV_atk 1 (by decide) hv (p := q) rfl
  obtain ⟨_, _, rc1, _⟩ := rdV_atk 2 (by decide) hv (p := r) rfl
  obtain ⟨_, _, tc1, _⟩ := rdV_atk 3 (by decide) hv (p := t) rfl
  have hAre := rAre_any _ [p, q, r, t] 1 _ L (hv.step B0 (Nat.le_refl _))
  have hb2 : areP 1 [p, q, r, t] = ([p, q, r, t].take 4).all (fun p => p.1 == 1) := rfl
  rw [hb2] at hAre
  cases hall : ([p, q, r, t].take 4).all (fun p => p.1 == 1)
  · have hR : relP rel [p, q, r, t] = nullP := by unfold relP; rw [hall]; rfl
    rw [hR]
    rw [hall] at hAre
    have HA := Lib.hid hAre
    have hI := fun W => fNull W
    unfold valV nullP at *
    dsimp only at hI ⊢
    clear hAre hv hb2 hR hall
    go_enter Try.func63, Try.ntmps63
    go_wp2_with fail
    with_reducible refine (HA.out).mono ?_
    rintro e w1 ⟨rfl, hb1⟩
    have o1 := o0.below hb1 o0.lt
    have B1 := B0.trans (hb1.mono B0.size)
    clear hb1
    go_wp2_with fail
    with_reducible refine (hI _).mono ?_
    rintro e w2 ⟨rfl, hb2⟩
    have o2 := o1.below hb2 o1.lt
    have B2 := B1.trans (hb2.mono B1.size)
    clear hb2
    have d0 := o2.cell 0; have e0 := o2.free 0; have d1 := o2.cell 1; have e1 := o2.free 1; have d2 := o2.cell 2; have e2 := o2.free 2; (try simp only [List.getElem?_toArray, List.getElem?_cons_zero, List.getElem?_cons_succ] at d0 d1 d2)
    go_wp2
    (try simp only [Exit.inBlock, Exit.then]); refine bodyPost_ret_by (results_cell_row1 (by rfl) _ _ (w.heap.size) _ (by rfl) (load_val (((o2.store 0 _).store 1 _).store 2 _))) ?_ ?_; (focus rfl); refine ⟨rfl, ?_⟩
    (repeat' (first | (with_reducible exact Below.refl _ _) | (with_reducible assumption) | (with_reducible refine Below.alloc ?_ ?_ _) | (with_reducible refine Below.drew ?_) | (with_reducible refine Below.setCell ?_ ?_ _) | (with_reducible refine Below.trans ?_ (Below.mono (by assumption) ?_)) | go_size))
  · have hR : relP rel [p, q, r, t] = if Aln.bothV p.2.1 q.2.1 r.2.1 t.2.1 then booP (Aln.relR p.2.1 q.2.1 r.2.1 t.2.1 == rel) else nullP := by unfold relP; rw [if_pos hall]; rfl
    generalize relP rel [p, q, r, t] = V at hR ⊢
    rw [hall] at hAre
    have HA := Lib.hid hAre
    have hrel := fun W => Aln.rrel_any p.2.1 q.2.1 r.2.1 t.2.1 W
    generalize p.2.1 = a at *
    generalize q.2.1 = b at *
    generalize r.2.1 = c at *
    generalize t.2.1 = d at *
    generalize Aln.relR a b c d = R at *
    have HREL := Lib.hid hrel
    have HS := Lib.hid (show ∀ w', Below w.heap.size w w' → (Below w.heap.size w w' ∧ w'.cell? ⟨ad.block, ad.off + 1, none⟩ = some (.int .i64 a) ∧ w'.cell? ⟨ad.block, ad.off + 3 + 1, none⟩ = some (.int .i64 b) ∧ w'.cell? ⟨ad.block, ad.off + 6 + 1, none⟩ = some (.int .i64 c) ∧ w'.cell? ⟨ad.block, ad.off + 9 + 1, none⟩ = some (.int .i64 d)) from fun w' hb => ⟨hb, (hb.cell (p := ⟨ad.block, ad.off + 1, none⟩) hab).trans pc1, (hb.cell (p := ⟨ad.block, ad.off + 3 + 1, none⟩) hab).trans qc1, (hb.cell (p := ⟨ad.block, ad.off + 6 + 1, none⟩) hab).trans rc1, (hb.cell (p := ⟨ad.block, ad.off + 9 + 1, none⟩) hab).trans tc1⟩)
    have HRP := Lib.hid hR
    clear hAre hv hb2 hR hrel pc1 qc1 rc1 tc1
    generalize Aln.bothV a b c d = bo at *
    go_enter Try.func63, Try.ntmps63
    go_wp2_with fail
    with_reducible refine (HA.out).mono ?_
    rintro e w1 ⟨rfl, hb1⟩
    have o1 := o0.below hb1 o0.lt
    have B1 := B0.trans (hb1.mono B0.size)
    clear hb1
    have HB5 := Lib.hid (show Below w.heap.size w w1.drew from B1.drew)
    have HB1 := Lib.hid (show Below w.heap.size w w1 from B1)
    have HO1 := Lib.hid (show Own w1 w.heap.size 23 #[.int .i64 0, .int .i64 0, .string ⟨#[]⟩] from o1)
    clear o0 B0 o1 B1
    go_wp2_with fail
    go_region_held3 (fun w' => Below w.heap.size w w' ∧ w'.cell? ⟨ad.block, ad.off + 1, none⟩ = some (.int .i64 a) ∧ w'.cell? ⟨ad.block, ad.off + 3 + 1, none⟩ = some (.int .i64 b) ∧ w'.cell? ⟨ad.block, ad.off + 6 + 1, none⟩ = some (.int .i64 c) ∧ w'.cell? ⟨ad.block, ad.off + 9 + 1, none⟩ = some (.int .i64 d))
      (first | (exact HS.out _ HB5.out) | (exact HS.out _ (HB5.out.trans ((bel_mk _ _).mono HB5.out.size))))
      (fail)
    have HB6 := Lib.hid (show Below w.heap.size w ((w1.alloc (.cells #[.int .i64 a, .int .i64 b] 95))) from (HB1.out.trans ((bel_mk w1 (.cells #[.int .i64 a, .int .i64 b] 95)).mono HB1.out.size)))
    have HO6 := Lib.hid (show Own (w1.alloc (.cells #[.int .i64 a, .int .i64 b] 95)) w.heap.size 23 #[.int .i64 0, .int .i64 0, .string ⟨#[]⟩] from HO1.out.alloc _)
    have HP6 := Lib.hid (show Own (w1.alloc (.cells #[.int .i64 a, .int .i64 b] 95)) w1.heap.size 95 #[.int .i64 a, .int .i64 b] from Own.new w1 _ _)
    clear HO1
    go_wp2_with fail
    go_region_held3 (fun w' => Below w.heap.size w w' ∧ w'.cell? ⟨ad.block, ad.off + 1, none⟩ = some (.int .i64 a) ∧ w'.cell? ⟨ad.block, ad.off + 3 + 1, none⟩ = some (.int .i64 b) ∧ w'.cell? ⟨ad.block, ad.off + 6 + 1, none⟩ = some (.int .i64 c) ∧ w'.cell? ⟨ad.block, ad.off + 9 + 1, none⟩ = some (.int .i64 d))
      (first | (exact HS.out _ HB6.out) | (exact HS.out _ (HB6.out.drew)) | (exact HS.out _ (HB6.out.drew.drew)) | (exact HS.out _ (HB6.out.trans ((bel_mk _ _).mono HB6.out.size))) | (exact HS.out _ ((HB6.out.drew).trans ((bel_mk _ _).mono (HB6.out.drew).size))) | (exact HS.out _ ((HB6.out.drew.drew).trans ((bel_mk _ _).mono (HB6.out.drew.drew).size))))
      (fail)
    have b7 := (HB6.out.trans ((bel_mk (w1.alloc (.cells #[.int .i64 a, .int .i64 b] 95)) (.cells #[.int .i64 c, .int .i64 d] 95)).mono HB6.out.size))
    have o7 : Own (((w1.alloc (.cells #[.int .i64 a, .int .i64 b] 95)).alloc (.cells #[.int .i64 c, .int .i64 d] 95)).drew.drew) w.heap.size 23 #[.int .i64 0, .int .i64 0, .string ⟨#[]⟩] := HO6.out.alloc _
    have p7 : Own (((w1.alloc (.cells #[.int .i64 a, .int .i64 b] 95)).alloc (.cells #[.int .i64 c, .int .i64 d] 95)).drew.drew) w1.heap.size 95 #[.int .i64 a, .int .i64 b] := HP6.out.alloc _
    have q7 : Own (((w1.alloc (.cells #[.int .i64 a, .int .i64 b] 95)).alloc (.cells #[.int .i64 c, .int .i64 d] 95)).drew.drew) (w1.heap.size + 1) 95 #[.int .i64 c, .int .i64 d] := by have := Own.new (w1.alloc (.cells #[.int .i64 a, .int .i64 b] 95)) 95 #[.int .i64 c, .int .i64 d]; rw [World.size_alloc] at this; exact this
    have HB7 := Lib.hid b7.drew.drew
    have HO7 := Lib.hid o7
    have pc0 := p7.cell 0
    have pc1 := p7.cell 1
    have qc0 := q7.cell 0
    have qc1 := q7.cell 1
    have hl7 := load_per p7
    have hl8 := load_per q7
    clear HB1 HB5 HB6 HO6 HP6 HS b7 o7 p7 q7
    generalize ((w1.alloc (Obj.cells #[Value.int IntKind.i64 a, Value.int IntKind.i64 b] 95)).alloc (Obj.cells #[Value.int IntKind.i64 c, Value.int IntKind.i64 d] 95)).drew.drew = W7 at *
    have HCW := fun W => fNull W
    have HBW := fun W => fBool (R == rel) W
    cases bo
    · have HQ := Lib.hid (show V = nullP by have := HRP.out; rwa [if_neg (by simp)] at this)
      unfold valV nullP at HCW
      dsimp only at HCW
      have HCN := Lib.hid HCW
      clear HCW HBW HRP
      go_wp2_with fail
      with_reducible refine (HREL.out _).mono ?_
      rintro e w8 ⟨rfl, hb8⟩
      have o8 := HO7.out.below hb8 HO7.out.lt
      have B8 := HB7.out.trans (hb8.mono HB7.out.size)
      clear hb8
      go_wp2_with fail
      with_reducible refine (HCN.out _).mono ?_
      rintro e w9 ⟨rfl, hb9⟩
      have o9 := o8.below hb9 o8.lt
      have B9 := B8.trans (hb9.mono B8.size)
      clear hb9
      have d0 := o9.cell 0; have e0 := o9.free 0; have d1 := o9.cell 1; have e1 := o9.free 1; have d2 := o9.cell 2; have e2 := o9.free 2; (try simp only [List.getElem?_toArray, List.getElem?_cons_zero, List.getElem?_cons_succ] at d0 d1 d2)
      go_wp2
      (try simp only [Exit.inBlock, Exit.then]); refine bodyPost_ret_by (results_cell_row1 (by rfl) _ _ (w.heap.size) _ (by rfl) (load_val (((o9.store 0 _).store 1 _).store 2 _))) ?_ ?_; (focus rfl); refine ⟨by rw [HQ.out]; rfl, ?_⟩
      (repeat' (first | (with_reducible exact Below.refl _ _) | (with_reducible assumption) | (with_reducible refine Below.alloc ?_ ?_ _) | (with_reducible refine Below.drew ?_) | (with_reducible refine Below.setCell ?_ ?_ _) | (with_reducible refine Below.trans ?_ (Below.mono (by assumption) ?_)) | go_size))
    · have HQ := Lib.hid (show V = booP (R == rel) by have := HRP.out; rwa [if_pos rfl] at this)
      generalize booP (R == rel) = r at HBW HQ
      obtain ⟨r1, r2, r3⟩ := r
      unfold valV at HBW
      dsimp only at HBW
      have HBN := Lib.hid HBW
      clear HCW HBW HRP
      go_wp2_with fail
      with_reducible refine (HREL.out _).mono ?_
      rintro e w8 ⟨rfl, hb8⟩
      have o8 := HO7.out.below hb8 HO7.out.lt
      have B8 := HB7.out.trans (hb8.mono HB7.out.size)
      clear hb8
      go_wp2_with fail
      with_reducible refine (HBN.out _).mono ?_
      rintro e w9 ⟨rfl, hb9⟩
      have o9 := o8.below hb9 o8.lt
      have B9 := B8.trans (hb9.mono B8.size)
      clear hb9
      have d0 := o9.cell 0; have e0 := o9.free 0; have d1 := o9.cell 1; have e1 := o9.free 1; have d2 := o9.cell 2; have e2 := o9.free 2; (try simp only [List.getElem?_toArray, List.getElem?_cons_zero, List.getElem?_cons_succ] at d0 d1 d2)
      go_wp2
      (try simp only [Exit.inBlock, Exit.then]); refine bodyPost_ret_by (results_cell_row1 (by rfl) _ _ (w.heap.size) _ (by rfl) (load_val (((o9.store 0 _).store 1 _).store 2 _))) ?_ ?_; (focus rfl); refine ⟨by rw [HQ.out]; rfl, ?_⟩
      (repeat' (first | (with_reducible exact Below.refl _ _) | (with_reducible assumption) | (with_reducible refine Below.alloc ?_ ?_ _) | (with_reducible refine Below.drew ?_) | (with_reducible refine Below.setCell ?_ ?_ _) | (with_reducible refine Below.trans ?_ (Below.mono (by assumption) ?_)) | go_size))
end Go.Proofs.Ytpiadcfejbnonaa
