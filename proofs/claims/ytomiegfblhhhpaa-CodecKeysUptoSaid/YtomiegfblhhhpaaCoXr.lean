/-
  Value of the program and of the reference: which value is read from any bytes at any offset. Conditions: lengths.
-/
import Derived.Test.YtomiegfblhhhpaaCoX
import Derived.Test.YtomiegfblhhhpaaCoVd
import Derived.Test.YtomiegfblhhhpaaCoQa
import Derived.WalkKit
import Derived.WalkSpells
import Derived.WalkLawsBesides
import Derived.Deep.QuietTactic
import Derived.BigQuiet
import Derived.Handy
import Derived.Lib.Hide
namespace Go.Proofs.Ytomiegfblhhhpaa
open Go.RowKit

set_option maxRecDepth 100000 in
set_option maxHeartbeats 6400000 in
theorem rVal_any (v : Value) (l : List UInt8) (i : Int) (w : World) (L : Nat) (hv : RdB w L w.heap.size v l) :
    Calls Try.prog 22 #[v, .int .i64 i] w fun e w' => e = .returned (valR (valF l i)) ∧ Below w.heap.size w w' := by
  have bW := bel_mark w (.cells #[.int .i64 0, .int .i64 0, .string ⟨#[]⟩] 35)
  have oB : Own (w.alloc (.cells #[.int .i64 0, .int .i64 0, .string ⟨#[]⟩] 35)) w.heap.size 35 #[.int .i64 0, .int .i64 0, .string ⟨#[]⟩] := Own.new _ _ _
  have HI := Lib.hid (fun (j : Int) W (h : Below w.heap.size w W) => rInt_any v l j W L (hv.step h (Nat.le_refl _)))
  have HT := Lib.hid (fun (j m : Int) W (h : Below w.heap.size w W) => rText_any v l j m W L (hv.step h (Nat.le_refl _)))
  have HVS := Lib.hid (fun W (h : Below w.heap.size w W) => hv.step h (Nat.le_refl _))
  obtain ⟨A, c, rfl, hl63, hlc, _⟩ := hv
  by_cases h0 : 0 ≤ i ∧ i ≤ l.length
  · obtain ⟨P, rfl⟩ := Int.eq_ofNat_of_zero_le h0.1
    by_cases hlt : P < l.length
    · have hlti : (P : Int) < l.length := by omega
      have hne : ¬ (P : Int) = l.length := by omega
      have hF := fun b hb => valF_in hlt b hb
      have hPl := Lib.hid (show ¬ ((P : Int) < 0) by omega)
      obtain ⟨ad, e1, _, _, hce⟩ := (HVS.out (w.alloc (.cells #[.int .i64 0, .int .i64 0, .string ⟨#[]⟩] 35)) bW).at (List.getElem?_eq_getElem hlt)
      subst e1
      have hbl := (l[P]'hlt).toNat_lt
      generalize (l[P]'hlt).toNat = bb at *
      have hF := hF bb rfl
      have HP1 := Lib.hid (show (P : Int) + 1 = ((P + 1 : Nat) : Int) by omega)
      clear h0 hPl
      by_cases k0 : bb = 0
      · subst k0
        have HF := Lib.hid (hF.trans (if_pos rfl))
        have hce : (w.alloc (.cells #[.int .i64 0, .int .i64 0, .string ⟨#[]⟩] 35)).cell? (ad.add P) = some (.int .u8 0) := hce
        clear hF
        go_enter Try.func22, Try.ntmps22
        go_wp2_with fail
        (try simp only [Exit.inBlock, Exit.then])
        refine bodyPost_ret_by (results_cell_row3 (by rfl) _ _ w.heap.size _ (by rfl) (load_val (Own.new _ _ _))) ?_ ?_
        · rfl
        · rw [HF.out]
          refine ⟨by unfold valR valV; dsimp only; first | rfl | (rw [← HP1.out]; rfl), ?_⟩
          (repeat' (first | (with_reducible exact Below.refl _ _) | (with_reducible assumption) | (with_reducible refine Below.alloc ?_ ?_ _) | (with_reducible refine Below.drew ?_) | (with_reducible refine Below.setCell ?_ ?_ _) | (with_reducible refine Below.trans ?_ (Below.mono (by assumption) ?_)) | go_size))
      by_cases k1 : bb = 1
      · subst k1
        have hce : (w.alloc (.cells #[.int .i64 0, .int .i64 0, .string ⟨#[]⟩] 35)).cell? (ad.add P) = some (.int .u8 1) := hce
        have hF := hF.trans ((if_neg (by decide)).trans (if_pos rfl))
        rcases hX : intF l ((P : Int) + 1) with ⟨er, n, k⟩
        rw [hX] at hF
        dsimp only at hF
        have HX := Lib.hid hX
        clear hX
        by_cases her : er = 0
        · subst her
          by_cases c1 : n < -1125899906842624
          · have HF := Lib.hid (hF.trans ((if_pos rfl).trans (if_neg (by unfold okP; simp; omega))))
            clear hF
            go_enter Try.func22, Try.ntmps22
            go_wp2_with fail
            generalize w.alloc (.cells #[.int .i64 0, .int .i64 0, .string ⟨#[]⟩] 35) = W at *
            go_wp2_with fail
            have hcl := HI.out ((P : Int) + 1) W bW
            rw [HX.out] at hcl

            with_reducible refine hcl.mono ?_
            rintro e w1 ⟨rfl, hb1⟩
            clear hcl
            have o1 := oB.below hb1 oB.lt
            have B1 := bW.trans (hb1.mono bW.size)
            have d0 := o1.cell 0; have d1 := o1.cell 1; have d2 := o1.cell 2; have e0 := o1.free 0; have e1 := o1.free 1; have e2 := o1.free 2
            (try simp only [List.getElem?_toArray, List.getElem?_cons_zero, List.getElem?_cons_succ] at d0 d1 d2)
            go_wp2
            (try simp only [Exit.inBlock, Exit.then])
            refine bodyPost_ret_by (results_cell_row3 (by rfl) _ _ w.heap.size _ (by rfl) (load_val (((o1.store 0 _).store 1 _).store 2 _))) ?_ ?_
            · rfl
            · rw [HF.out]
              refine ⟨rfl, ?_⟩
              (repeat' (first | (with_reducible exact Below.refl _ _) | (with_reducible assumption) | (with_reducible refine Below.alloc ?_ ?_ _) | (with_reducible refine Below.drew ?_) | (with_reducible refine Below.setCell ?_ ?_ _) | (with_reducible refine Below.trans ?_ (Below.mono (by assumption) ?_)) | go_size))
          · by_cases c2 : n > 1125899906842624
            · have HF := Lib.hid (hF.trans ((if_pos rfl).trans (if_neg (by unfold okP; simp; omega))))
              clear hF
              go_enter Try.func22, Try.ntmps22
              go_wp2_with fail
              generalize w.alloc (.cells #[.int .i64 0, .int .i64 0, .string ⟨#[]⟩] 35) = W at *
              go_wp2_with fail
              have hcl := HI.out ((P : Int) + 1) W bW
              rw [HX.out] at hcl

              with_reducible refine hcl.mono ?_
              rintro e w1 ⟨rfl, hb1⟩
              clear hcl
              have o1 := oB.below hb1 oB.lt
              have B1 := bW.trans (hb1.mono bW.size)
              have d0 := o1.cell 0; have d1 := o1.cell 1; have d2 := o1.cell 2; have e0 := o1.free 0; have e1 := o1.free 1; have e2 := o1.free 2
              (try simp only [List.getElem?_toArray, List.getElem?_cons_zero, List.getElem?_cons_succ] at d0 d1 d2)
              go_wp2
              (try simp only [Exit.inBlock, Exit.then])
              refine bodyPost_ret_by (results_cell_row3 (by rfl) _ _ w.heap.size _ (by rfl) (load_val (((o1.store 0 _).store 1 _).store 2 _))) ?_ ?_
              · rfl
              · rw [HF.out]
                refine ⟨rfl, ?_⟩
                (repeat' (first | (with_reducible exact Below.refl _ _) | (with_reducible assumption) | (with_reducible refine Below.alloc ?_ ?_ _) | (with_reducible refine Below.drew ?_) | (with_reducible refine Below.setCell ?_ ?_ _) | (with_reducible refine Below.trans ?_ (Below.mono (by assumption) ?_)) | go_size))
            · have HF := Lib.hid (hF.trans ((if_pos rfl).trans (if_pos (by unfold okP; simp [Lib.toList_data]; omega))))
              clear hF
              go_enter Try.func22, Try.ntmps22
              go_wp2_with fail
              generalize w.alloc (.cells #[.int .i64 0, .int .i64 0, .string ⟨#[]⟩] 35) = W at *
              go_wp2_with fail
              have hcl := HI.out ((P : Int) + 1) W bW
              rw [HX.out] at hcl

              with_reducible refine hcl.mono ?_
              rintro e w1 ⟨rfl, hb1⟩
              clear hcl
              have o1 := oB.below hb1 oB.lt
              have B1 := bW.trans (hb1.mono bW.size)
              have d0 := o1.cell 0; have d1 := o1.cell 1; have d2 := o1.cell 2; have e0 := o1.free 0; have e1 := o1.free 1; have e2 := o1.free 2
              (try simp only [List.getElem?_toArray, List.getElem?_cons_zero, List.getElem?_cons_succ] at d0 d1 d2)
              go_wp2
              (try simp only [Exit.inBlock, Exit.then])
              refine bodyPost_ret_by (results_cell_row3 (by rfl) _ _ w.heap.size _ (by rfl) (load_val (((o1.store 0 _).store 1 _).store 2 _))) ?_ ?_
              · rfl
              · rw [HF.out]
                refine ⟨rfl, ?_⟩
                (repeat' (first | (with_reducible exact Below.refl _ _) | (with_reducible assumption) | (with_reducible refine Below.alloc ?_ ?_ _) | (with_reducible refine Below.drew ?_) | (with_reducible refine Below.setCell ?_ ?_ _) | (with_reducible refine Below.trans ?_ (Below.mono (by assumption) ?_)) | go_size))
        · have hei : ¬ ((er : Nat) : Int) = 0 := by omega
          have HF := Lib.hid (hF.trans (if_neg her))
          clear hF
          go_enter Try.func22, Try.ntmps22
          go_wp2_with fail
          generalize w.alloc (.cells #[.int .i64 0, .int .i64 0, .string ⟨#[]⟩] 35) = W at *
          go_wp2_with fail
          have hcl := HI.out ((P : Int) + 1) W bW
          rw [HX.out] at hcl

          with_reducible refine hcl.mono ?_
          rintro e w1 ⟨rfl, hb1⟩
          clear hcl
          have o1 := oB.below hb1 oB.lt
          have B1 := bW.trans (hb1.mono bW.size)
          have d0 := o1.cell 0; have d1 := o1.cell 1; have d2 := o1.cell 2; have e0 := o1.free 0; have e1 := o1.free 1; have e2 := o1.free 2
          (try simp only [List.getElem?_toArray, List.getElem?_cons_zero, List.getElem?_cons_succ] at d0 d1 d2)
          go_wp2
          (try simp only [Exit.inBlock, Exit.then])
          refine bodyPost_ret_by (results_cell_row3 (by rfl) _ _ w.heap.size _ (by rfl) (load_val (((o1.store 0 _).store 1 _).store 2 _))) ?_ ?_
          · rfl
          · rw [HF.out]
            refine ⟨rfl, ?_⟩
            (repeat' (first | (with_reducible exact Below.refl _ _) | (with_reducible assumption) | (with_reducible refine Below.alloc ?_ ?_ _) | (with_reducible refine Below.drew ?_) | (with_reducible refine Below.setCell ?_ ?_ _) | (with_reducible refine Below.trans ?_ (Below.mono (by assumption) ?_)) | go_size))
      by_cases k2 : bb = 2
      · subst k2
        have hce : (w.alloc (.cells #[.int .i64 0, .int .i64 0, .string ⟨#[]⟩] 35)).cell? (ad.add P) = some (.int .u8 2) := hce
        have hF := hF.trans ((if_neg (by decide)).trans ((if_neg (by decide)).trans (if_pos rfl)))
        have hsz := txtF_size l ((P : Int) + 1) 200
        rcases hX : txtF l ((P : Int) + 1) 200 with ⟨er, n, k⟩
        rw [hX] at hF hsz
        dsimp only at hF hsz
        have HX := Lib.hid hX
        clear hX
        by_cases her : er = 0
        · subst her
          have hs2 := hsz rfl
          cases hp : prnB n.data.toList
          · have HF := Lib.hid (hF.trans ((if_pos rfl).trans (if_neg (by unfold okP; simp [hp]))))
            have HPR := Lib.hid hp
            clear hF hp hsz
            go_enter Try.func22, Try.ntmps22
            go_wp2_with fail
            generalize w.alloc (.cells #[.int .i64 0, .int .i64 0, .string ⟨#[]⟩] 35) = W at *
            go_wp2_with fail
            have hcl := HT.out ((P : Int) + 1) 200 W bW
            rw [HX.out] at hcl
            unfold txtR at hcl
            with_reducible refine hcl.mono ?_
            rintro e w1 ⟨rfl, hb1⟩
            clear hcl
            have o1 := oB.below hb1 oB.lt
            have B1 := bW.trans (hb1.mono bW.size)
            have d0 := o1.cell 0; have d1 := o1.cell 1; have d2 := o1.cell 2; have e0 := o1.free 0; have e1 := o1.free 1; have e2 := o1.free 2
            (try simp only [List.getElem?_toArray, List.getElem?_cons_zero, List.getElem?_cons_succ] at d0 d1 d2)
            have hpp := rPrn_any n w1 (by omega)
            rw [HPR.out] at hpp
            go_wp2_with fail
            with_reducible refine hpp.mono ?_
            rintro e w2 ⟨rfl, hw2⟩
            subst w2
            go_wp2
            (try simp only [Exit.inBlock, Exit.then])
            refine bodyPost_ret_by (results_cell_row3 (by rfl) _ _ w.heap.size _ (by rfl) (load_val (((o1.store 0 _).store 1 _).store 2 _))) ?_ ?_
            · rfl
            · rw [HF.out]
              refine ⟨rfl, ?_⟩
              (repeat' (first | (with_reducible exact Below.refl _ _) | (with_reducible assumption) | (with_reducible refine Below.alloc ?_ ?_ _) | (with_reducible refine Below.drew ?_) | (with_reducible refine Below.setCell ?_ ?_ _) | (with_reducible refine Below.trans ?_ (Below.mono (by assumption) ?_)) | go_size))
          · have HF := Lib.hid (hF.trans ((if_pos rfl).trans (if_pos (by unfold okP; simp [hp]; omega))))
            have HPR := Lib.hid hp
            clear hF hp hsz
            go_enter Try.func22, Try.ntmps22
            go_wp2_with fail
            generalize w.alloc (.cells #[.int .i64 0, .int .i64 0, .string ⟨#[]⟩] 35) = W at *
            go_wp2_with fail
            have hcl := HT.out ((P : Int) + 1) 200 W bW
            rw [HX.out] at hcl
            unfold txtR at hcl
            with_reducible refine hcl.mono ?_
            rintro e w1 ⟨rfl, hb1⟩
            clear hcl
            have o1 := oB.below hb1 oB.lt
            have B1 := bW.trans (hb1.mono bW.size)
            have d0 := o1.cell 0; have d1 := o1.cell 1; have d2 := o1.cell 2; have e0 := o1.free 0; have e1 := o1.free 1; have e2 := o1.free 2
            (try simp only [List.getElem?_toArray, List.getElem?_cons_zero, List.getElem?_cons_succ] at d0 d1 d2)
            have hpp := rPrn_any n w1 (by omega)
            rw [HPR.out] at hpp
            go_wp2_with fail
            with_reducible refine hpp.mono ?_
            rintro e w2 ⟨rfl, hw2⟩
            subst w2
            go_wp2
            (try simp only [Exit.inBlock, Exit.then])
            refine bodyPost_ret_by (results_cell_row3 (by rfl) _ _ w.heap.size _ (by rfl) (load_val (((o1.store 0 _).store 1 _).store 2 _))) ?_ ?_
            · rfl
            · rw [HF.out]
              refine ⟨rfl, ?_⟩
              (repeat' (first | (with_reducible exact Below.refl _ _) | (with_reducible assumption) | (with_reducible refine Below.alloc ?_ ?_ _) | (with_reducible refine Below.drew ?_) | (with_reducible refine Below.setCell ?_ ?_ _) | (with_reducible refine Below.trans ?_ (Below.mono (by assumption) ?_)) | go_size))
        · have hei : ¬ ((er : Nat) : Int) = 0 := by omega
          have HF := Lib.hid (hF.trans (if_neg her))
          clear hF hsz
          go_enter Try.func22, Try.ntmps22
          go_wp2_with fail
          generalize w.alloc (.cells #[.int .i64 0, .int .i64 0, .string ⟨#[]⟩] 35) = W at *
          go_wp2_with fail
          have hcl := HT.out ((P : Int) + 1) 200 W bW
          rw [HX.out] at hcl
          unfold txtR at hcl
          with_reducible refine hcl.mono ?_
          rintro e w1 ⟨rfl, hb1⟩
          clear hcl
          have o1 := oB.below hb1 oB.lt
          have B1 := bW.trans (hb1.mono bW.size)
          have d0 := o1.cell 0; have d1 := o1.cell 1; have d2 := o1.cell 2; have e0 := o1.free 0; have e1 := o1.free 1; have e2 := o1.free 2
          (try simp only [List.getElem?_toArray, List.getElem?_cons_zero, List.getElem?_cons_succ] at d0 d1 d2)
          go_wp2
          (try simp only [Exit.inBlock, Exit.then])
          refine bodyPost_ret_by (results_cell_row3 (by rfl) _ _ w.heap.size _ (by rfl) (load_val (((o1.store 0 _).store 1 _).store 2 _))) ?_ ?_
          · rfl
          · rw [HF.out]
            refine ⟨rfl, ?_⟩
            (repeat' (first | (with_reducible exact Below.refl _ _) | (with_reducible assumption) | (with_reducible refine Below.alloc ?_ ?_ _) | (with_reducible refine Below.drew ?_) | (with_reducible refine Below.setCell ?_ ?_ _) | (with_reducible refine Below.trans ?_ (Below.mono (by assumption) ?_)) | go_size))
      by_cases k3 : bb = 3
      · subst k3
        have hce : (w.alloc (.cells #[.int .i64 0, .int .i64 0, .string ⟨#[]⟩] 35)).cell? (ad.add P) = some (.int .u8 3) := hce
        have HF := Lib.hid (hF.trans ((if_neg (by decide)).trans ((if_neg (by decide)).trans ((if_neg (by decide)).trans (if_pos rfl)))))
        clear hF
        go_enter Try.func22, Try.ntmps22
        go_wp2_with fail
        (try simp only [Exit.inBlock, Exit.then])
        refine bodyPost_ret_by (results_cell_row3 (by rfl) _ _ w.heap.size _ (by rfl) (load_val (Own.new _ _ _))) ?_ ?_
        · rfl
        · rw [HF.out]
          refine ⟨by unfold valR valV; dsimp only; first | rfl | (rw [← HP1.out]; rfl), ?_⟩
          (repeat' (first | (with_reducible exact Below.refl _ _) | (with_reducible assumption) | (with_reducible refine Below.alloc ?_ ?_ _) | (with_reducible refine Below.drew ?_) | (with_reducible refine Below.setCell ?_ ?_ _) | (with_reducible refine Below.trans ?_ (Below.mono (by assumption) ?_)) | go_size))
      by_cases k4 : bb = 4
      · subst k4
        have hce : (w.alloc (.cells #[.int .i64 0, .int .i64 0, .string ⟨#[]⟩] 35)).cell? (ad.add P) = some (.int .u8 4) := hce
        have HF := Lib.hid (hF.trans ((if_neg (by decide)).trans ((if_neg (by decide)).trans ((if_neg (by decide)).trans ((if_neg (by decide)).trans (if_pos rfl))))))
        clear hF
        go_enter Try.func22, Try.ntmps22
        go_wp2_with fail
        (try simp only [Exit.inBlock, Exit.then])
        refine bodyPost_ret_by (results_cell_row3 (by rfl) _ _ w.heap.size _ (by rfl) (load_val (Own.new _ _ _))) ?_ ?_
        · rfl
        · rw [HF.out]
          refine ⟨by unfold valR valV; dsimp only; first | rfl | (rw [← HP1.out]; rfl), ?_⟩
          (repeat' (first | (with_reducible exact Below.refl _ _) | (with_reducible assumption) | (with_reducible refine Below.alloc ?_ ?_ _) | (with_reducible refine Below.drew ?_) | (with_reducible refine Below.setCell ?_ ?_ _) | (with_reducible refine Below.trans ?_ (Below.mono (by assumption) ?_)) | go_size))
      · have HF := Lib.hid (hF.trans ((if_neg k0).trans ((if_neg k1).trans ((if_neg k2).trans ((if_neg k3).trans (if_neg k4))))))
        have j0 : ((bb : Int) == 0) = false := by rw [beq_eq_false_iff_ne]; omega
        have j1 : ((bb : Int) == 1) = false := by rw [beq_eq_false_iff_ne]; omega
        have j2 : ((bb : Int) == 2) = false := by rw [beq_eq_false_iff_ne]; omega
        have j3 : ((bb : Int) == 3) = false := by rw [beq_eq_false_iff_ne]; omega
        have j4 : ((bb : Int) == 4) = false := by rw [beq_eq_false_iff_ne]; omega
        clear hF k0 k1 k2 k3 k4
        go_enter Try.func22, Try.ntmps22
        go_wp2_with fail
        (try simp only [Exit.inBlock, Exit.then])
        refine bodyPost_ret_by (results_cell_row3 (by rfl) _ _ w.heap.size _ (by rfl) (load_val (Own.new _ _ _))) ?_ ?_
        · rfl
        · rw [HF.out]
          refine ⟨rfl, ?_⟩
          (repeat' (first | (with_reducible exact Below.refl _ _) | (with_reducible assumption) | (with_reducible refine Below.alloc ?_ ?_ _) | (with_reducible refine Below.drew ?_) | (with_reducible refine Below.setCell ?_ ?_ _) | (with_reducible refine Below.trans ?_ (Below.mono (by assumption) ?_)) | go_size))
    · have hPP : P = l.length := by omega
      have HF := Lib.hid (show valF l P = (2, (0, 0, ⟨#[]⟩), 0) by unfold valF; rw [if_neg (by omega), if_pos (by omega)])
      clear h0 hlt
      subst hPP
      go_enter Try.func22, Try.ntmps22
      go_wp2_with fail
      (try simp only [Exit.inBlock, Exit.then])
      refine bodyPost_ret_by (results_cell_row3 (by rfl) _ _ w.heap.size _ (by rfl) (load_val (Own.new _ _ _))) ?_ ?_
      · rfl
      · rw [HF.out]
        refine ⟨rfl, ?_⟩
        (repeat' (first | (with_reducible exact Below.refl _ _) | (with_reducible assumption) | (with_reducible refine Below.alloc ?_ ?_ _) | (with_reducible refine Below.drew ?_) | (with_reducible refine Below.setCell ?_ ?_ _) | (with_reducible refine Below.trans ?_ (Below.mono (by assumption) ?_)) | go_size))
  · have HF := Lib.hid (show valF l i = (6, (0, 0, ⟨#[]⟩), 0) by unfold valF; rw [if_pos (by omega)])
    by_cases hi : i < 0
    · clear h0
      go_enter Try.func22, Try.ntmps22
      go_wp2_with fail
      (try simp only [Exit.inBlock, Exit.then])
      refine bodyPost_ret_by (results_cell_row3 (by rfl) _ _ w.heap.size _ (by rfl) (load_val (Own.new _ _ _))) ?_ ?_
      · rfl
      · rw [HF.out]
        refine ⟨rfl, ?_⟩
        (repeat' (first | (with_reducible exact Below.refl _ _) | (with_reducible assumption) | (with_reducible refine Below.alloc ?_ ?_ _) | (with_reducible refine Below.drew ?_) | (with_reducible refine Below.setCell ?_ ?_ _) | (with_reducible refine Below.trans ?_ (Below.mono (by assumption) ?_)) | go_size))
    · have hi2 : i > l.length := by omega
      clear h0
      go_enter Try.func22, Try.ntmps22
      go_wp2_with fail
      (try simp only [Exit.inBlock, Exit.then])
      refine bodyPost_ret_by (results_cell_row3 (by rfl) _ _ w.heap.size _ (by rfl) (load_val (Own.new _ _ _))) ?_ ?_
      · rfl
      · rw [HF.out]
        refine ⟨rfl, ?_⟩
        (repeat' (first | (with_reducible exact Below.refl _ _) | (with_reducible assumption) | (with_reducible refine Below.alloc ?_ ?_ _) | (with_reducible refine Below.drew ?_) | (with_reducible refine Below.setCell ?_ ?_ _) | (with_reducible refine Below.trans ?_ (Below.mono (by assumption) ?_)) | go_size))
end Go.Proofs.Ytomiegfblhhhpaa
