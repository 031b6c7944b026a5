/-
  Value of the program and of the reference: which value is read from any bytes at any offset. Conditions: lengths.
-/
import Derived.Test.YtclpemmpckjemaaDoorCoVb
import Derived.Test.YtclpemmpckjemaaDoorCoTa
import Derived.Test.YtclpemmpckjemaaDoorCoQa
import Derived.WalkKit
import Derived.WalkSpells
import Derived.WalkLawsBesides
import Derived.Deep.QuietTactic
import Derived.BigQuiet
import Derived.Handy
import Derived.Lib.Hide
namespace Go.Proofs.YtclpemmpckjemaaDoor
open Go.RowKit

/-- What checked answers. -/
def chkF (p : Vl) (nx er iv : Int) : Vl × Int × Int := if er = 0 then if okP p = true then (p, nx, 0) else ((0, 0, ⟨#[]⟩), 0, iv) else ((0, 0, ⟨#[]⟩), 0, er)
def chkR (x : Vl × Int × Int) : Value := .tuple #[valV x.1, .int .i64 x.2.1, .int .i64 x.2.2]
theorem own_two {w : World} {t : TypeId} {cs : Array Value} (o : Obj) : Own ((w.alloc o).alloc (.cells cs t)) (w.heap.size + 1) t cs := by
  have h := Own.new (w.alloc o) t cs
  rwa [World.size_alloc] at h
set_option maxRecDepth 100000 in
set_option maxHeartbeats 1600000 in
theorem checked_any (p : Vl) (nx er iv : Int) (hiv : iv ≠ 0) (w : World) :
    Calls Tryd.prog 39 #[valV p, .int .i64 nx, .int .i64 er, .int .i64 iv] w fun e w' => e = .returned (chkR (chkF p nx er iv)) ∧ Below w.heap.size w w' := by
  obtain ⟨k, n, s⟩ := p
  have hV := fun W => pValid_any k n s W
  unfold chkF chkR
  unfold valV at *
  dsimp only at hV ⊢
  have oA : Own ((w.alloc (.cells #[.int .i64 k, .int .i64 n, .string s] 24)).alloc (.cells #[.int .i64 0, .int .i64 0, .string ⟨#[]⟩] 24)) w.heap.size 24 #[.int .i64 k, .int .i64 n, .string s] := (Own.new _ _ _).alloc _
  have oB : Own ((w.alloc (.cells #[.int .i64 k, .int .i64 n, .string s] 24)).alloc (.cells #[.int .i64 0, .int .i64 0, .string ⟨#[]⟩] 24)) (w.heap.size + 1) 24 #[.int .i64 0, .int .i64 0, .string ⟨#[]⟩] := own_two _
  have bW : Below w.heap.size w ((w.alloc (.cells #[.int .i64 k, .int .i64 n, .string s] 24)).alloc (.cells #[.int .i64 0, .int .i64 0, .string ⟨#[]⟩] 24)) := (bel_mark w _).trans ((bel_mark _ _).mono (bel_mark w _).size)
  have sW : ((w.alloc (.cells #[.int .i64 k, .int .i64 n, .string s] 24)).alloc (.cells #[.int .i64 0, .int .i64 0, .string ⟨#[]⟩] 24)).heap.size = w.heap.size + 1 + 1 := by simp
  by_cases h0 : er = 0
  · subst h0
    rw [if_pos rfl]
    cases hv : okP (k, n, s)
    · rw [if_neg (by simp)]
      rw [hv] at hV
      clear hv
      go_enter Tryd.func39, Tryd.ntmps39
      go_wp2_with fail
      generalize (w.alloc (.cells #[.int .i64 k, .int .i64 n, .string s] 24)).alloc (.cells #[.int .i64 0, .int .i64 0, .string ⟨#[]⟩] 24) = W at *
      refine (hV _).mono ?_
      rintro e w1 ⟨rfl, hb1⟩
      have z1 := hb1.size
      have o1 := oB.below hb1 oB.lt
      have B1 := bW.trans (hb1.mono bW.size)
      have d0 := o1.cell 0; have e0 := o1.free 0; have d1 := o1.cell 1; have e1 := o1.free 1; have d2 := o1.cell 2; have e2 := o1.free 2; (try simp only [List.getElem?_toArray, List.getElem?_cons_zero, List.getElem?_cons_succ] at d0 d1 d2)
      go_wp2
      (try simp only [Exit.inBlock, Exit.then]); refine bodyPost_ret_by (results_cell_row3 (by rfl) _ _ (w.heap.size + 1) _ (by rfl) (load_val (((o1.store 0 _).store 1 _).store 2 _))) ?_ ?_; (focus rfl); refine ⟨rfl, ?_⟩
      (repeat' (first | (with_reducible exact Below.refl _ _) | (with_reducible assumption) | (with_reducible refine Below.alloc ?_ ?_ _) | (with_reducible refine Below.drew ?_) | (with_reducible refine Below.setCell ?_ ?_ _) | (with_reducible refine Below.trans ?_ (Below.mono (by assumption) ?_)) | go_size))
    · rw [if_pos rfl]
      rw [hv] at hV
      clear hv
      go_enter Tryd.func39, Tryd.ntmps39
      go_wp2_with fail
      generalize (w.alloc (.cells #[.int .i64 k, .int .i64 n, .string s] 24)).alloc (.cells #[.int .i64 0, .int .i64 0, .string ⟨#[]⟩] 24) = W at *
      refine (hV _).mono ?_
      rintro e w1 ⟨rfl, hb1⟩
      have z1 := hb1.size
      have o1 := oB.below hb1 oB.lt
      have a1 := oA.below hb1 oA.lt
      have B1 := bW.trans (hb1.mono bW.size)
      have d0 := o1.cell 0; have e0 := o1.free 0; have d1 := o1.cell 1; have e1 := o1.free 1; have d2 := o1.cell 2; have e2 := o1.free 2; (try simp only [List.getElem?_toArray, List.getElem?_cons_zero, List.getElem?_cons_succ] at d0 d1 d2)
      have d0a := a1.cell 0; have e0a := a1.free 0; have d1a := a1.cell 1; have e1a := a1.free 1; have d2a := a1.cell 2; have e2a := a1.free 2; (try simp only [List.getElem?_toArray, List.getElem?_cons_zero, List.getElem?_cons_succ] at d0a d1a d2a)
      go_wp2
      (try simp only [Exit.inBlock, Exit.then]); refine bodyPost_ret_by (results_cell_row3 (by rfl) _ _ (w.heap.size + 1) _ (by rfl) (load_val (((o1.store 0 _).store 1 _).store 2 _))) ?_ ?_; (focus rfl); refine ⟨rfl, ?_⟩
      (repeat' (first | (with_reducible exact Below.refl _ _) | (with_reducible assumption) | (with_reducible refine Below.alloc ?_ ?_ _) | (with_reducible refine Below.drew ?_) | (with_reducible refine Below.setCell ?_ ?_ _) | (with_reducible refine Below.trans ?_ (Below.mono (by assumption) ?_)) | go_size))
  · rw [if_neg h0]
    clear hV
    go_enter Tryd.func39, Tryd.ntmps39
    go_wp2
    (try simp only [Exit.inBlock, Exit.then]); refine bodyPost_ret_by (results_cell_row3 (by rfl) _ _ (w.heap.size + 1) _ (by rfl) (load_val (own_two _))) ?_ ?_; (focus rfl); refine ⟨rfl, ?_⟩
    (repeat' (first | (with_reducible exact Below.refl _ _) | (with_reducible assumption) | (with_reducible refine Below.alloc ?_ ?_ _) | (with_reducible refine Below.drew ?_) | (with_reducible refine Below.setCell ?_ ?_ _) | (with_reducible refine Below.trans ?_ (Below.mono (by assumption) ?_)) | go_size))
/-- What Value answers: the error, the value, where the next begins. -/
def valF (l : List UInt8) (i : Int) : Nat × Vl × Nat :=
  if i < 0 ∨ i > l.length then (6, (0, 0, ⟨#[]⟩), 0) else if i = l.length then (2, (0, 0, ⟨#[]⟩), 0)
  else if (l.getD i.toNat 0).toNat = 0 then (0, (0, 0, ⟨#[]⟩), i.toNat + 1)
  else if (l.getD i.toNat 0).toNat = 1 then (if (intF l (i + 1)).1 = 0 then if okP (1, (intF l (i + 1)).2.1, ⟨#[]⟩) = true then (0, (1, (intF l (i + 1)).2.1, ⟨#[]⟩), (intF l (i + 1)).2.2) else (6, (0, 0, ⟨#[]⟩), 0) else ((intF l (i + 1)).1, (0, 0, ⟨#[]⟩), 0))
  else if (l.getD i.toNat 0).toNat = 2 then (if (txtF l (i + 1) 200).1 = 0 then if okP (2, 0, (txtF l (i + 1) 200).2.1) = true then (0, (2, 0, (txtF l (i + 1) 200).2.1), (txtF l (i + 1) 200).2.2) else (1, (0, 0, ⟨#[]⟩), 0) else ((txtF l (i + 1) 200).1, (0, 0, ⟨#[]⟩), 0))
  else if (l.getD i.toNat 0).toNat = 3 then (0, (3, 0, ⟨#[]⟩), i.toNat + 1)
  else if (l.getD i.toNat 0).toNat = 4 then (0, (3, 1, ⟨#[]⟩), i.toNat + 1) else (1, (0, 0, ⟨#[]⟩), 0)
def valR (x : Nat × Vl × Nat) : Value := .tuple #[valV x.2.1, .int .i64 (x.2.2 : Nat), .int .i64 (x.1 : Nat)]
theorem valF_in {l : List UInt8} {P : Nat} (h : P < l.length) (b : Nat) (hb : (l[P]'h).toNat = b) : valF l P =
    if b = 0 then (0, (0, 0, ⟨#[]⟩), P + 1)
    else if b = 1 then (if (intF l ((P : Int) + 1)).1 = 0 then if okP (1, (intF l ((P : Int) + 1)).2.1, ⟨#[]⟩) = true then (0, (1, (intF l ((P : Int) + 1)).2.1, ⟨#[]⟩), (intF l ((P : Int) + 1)).2.2) else (6, (0, 0, ⟨#[]⟩), 0) else ((intF l ((P : Int) + 1)).1, (0, 0, ⟨#[]⟩), 0))
    else if b = 2 then (if (txtF l ((P : Int) + 1) 200).1 = 0 then if okP (2, 0, (txtF l ((P : Int) + 1) 200).2.1) = true then (0, (2, 0, (txtF l ((P : Int) + 1) 200).2.1), (txtF l ((P : Int) + 1) 200).2.2) else (1, (0, 0, ⟨#[]⟩), 0) else ((txtF l ((P : Int) + 1) 200).1, (0, 0, ⟨#[]⟩), 0))
    else if b = 3 then (0, (3, 0, ⟨#[]⟩), P + 1) else if b = 4 then (0, (3, 1, ⟨#[]⟩), P + 1) else (1, (0, 0, ⟨#[]⟩), 0) := by
  unfold valF
  rw [if_neg (by omega), if_neg (by omega), Int.toNat_natCast, List.getD_eq_getElem?_getD, List.getElem?_eq_getElem h, Option.getD_some, hb]
theorem txtF_size (l : List UInt8) (i m : Int) (h : (txtF l i m).1 = 0) : ((txtF l i m).2.1.size : Int) ≤ max m 0 := by
  unfold txtF at h ⊢
  split at h
  · rename_i h1
    rw [if_pos h1]
    split at h
    · simp at h
    · rename_i h2
      rw [if_neg h2]
      split at h
      · simp at h
      · rename_i h3
        rw [if_neg h3]
        split at h
        · simp at h
        · rename_i h4
          rw [if_neg h4]
          have h5 : (ByteArray.mk ((l.drop (intF l i).2.2).take (intF l i).2.1.toNat).toArray).size ≤ (intF l i).2.1.toNat := by
            show (((l.drop (intF l i).2.2).take (intF l i).2.1.toNat).toArray).size ≤ _
            rw [List.size_toArray, List.length_take]
            omega
          dsimp only
          omega
  · exact absurd h (by assumption)
set_option maxRecDepth 100000 in
set_option maxHeartbeats 6400000 in
theorem pVal_any (v : Value) (l : List UInt8) (i : Int) (w : World) (L : Nat) (hv : RdB w L w.heap.size v l) :
    Calls Tryd.prog 26 #[v, .int .i64 i] w fun e w' => e = .returned (valR (valF l i)) ∧ Below w.heap.size w w' := by
  have bW := bel_mark w (.cells #[.int .i64 0, .int .i64 0, .string ⟨#[]⟩] 24)
  have oB : Own (w.alloc (.cells #[.int .i64 0, .int .i64 0, .string ⟨#[]⟩] 24)) w.heap.size 24 #[.int .i64 0, .int .i64 0, .string ⟨#[]⟩] := Own.new _ _ _
  have HI := Lib.hid (fun (j : Int) W (h : Below w.heap.size w W) => pInt_any v l j W L (hv.step h (Nat.le_refl _)))
  have HT := Lib.hid (fun (j m : Int) W (h : Below w.heap.size w W) => pText_any v l j m W L (hv.step h (Nat.le_refl _)))
  have hof := fun W (h : Below w.heap.size w W) => isOffset_any v l i W L W.heap.size (hv.step h (Nat.le_refl _))
  have HVS := Lib.hid (fun W (h : Below w.heap.size w W) => hv.step h (Nat.le_refl _))
  obtain ⟨A, c, rfl, hl63, hlc, _⟩ := hv
  by_cases h0 : 0 ≤ i ∧ i ≤ l.length
  · obtain ⟨P, rfl⟩ := Int.eq_ofNat_of_zero_le h0.1
    have hof1 := fun W h => (by have h1 := hof W h; rw [decide_eq_true h0] at h1; exact h1 : Calls Tryd.prog 36 #[.slice A l.length c, .int .i64 (P : Nat)] W fun e w' => e = .returned (.bool true) ∧ w' = W)
    have HOF := Lib.hid hof1
    clear hof hof1
    by_cases hlt : P < l.length
    · have hlti : (P : Int) < l.length := by omega
      have hne : ¬ (P : Int) = l.length := by omega
      have hF := fun b hb => valF_in hlt b hb
      have hPl := Lib.hid (show ¬ ((P : Int) < 0) by omega)
      obtain ⟨ad, e1, _, _, hce⟩ := (HVS.out (w.alloc (.cells #[.int .i64 0, .int .i64 0, .string ⟨#[]⟩] 24)) bW).at (List.getElem?_eq_getElem hlt)
      subst e1
      have hbl := (l[P]'hlt).toNat_lt
      generalize (l[P]'hlt).toNat = bb at *
      have hF := hF bb rfl
      have HP1 := Lib.hid (show (P : Int) + 1 = ((P + 1 : Nat) : Int) by omega)
      clear h0 hPl
      by_cases k0 : bb = 0
      · subst k0
        have HF := Lib.hid (hF.trans (if_pos rfl))
        have hce : (w.alloc (.cells #[.int .i64 0, .int .i64 0, .string ⟨#[]⟩] 24)).cell? (ad.add P) = some (.int .u8 0) := hce
        clear hF
        go_enter Tryd.func26, Tryd.ntmps26
        go_wp2_with fail
        generalize w.alloc (.cells #[.int .i64 0, .int .i64 0, .string ⟨#[]⟩] 24) = W at *
        have hof2 := HOF.out W bW
        with_reducible refine hof2.mono ?_
        rintro e w0 ⟨rfl, hw0⟩
        subst w0
        clear hof2
        go_wp2_with fail
        have hcl : Calls Tryd.prog 38 #[] W fun e w' => e = .returned (.agg #[.int .i64 0, .int .i64 0, .string ⟨#[]⟩]) ∧ Below W.heap.size W w' := pNull_any W
        with_reducible refine hcl.mono ?_
        rintro e w1 ⟨rfl, hb1⟩
        clear hcl
        have o1 := oB.below hb1 oB.lt
        have B1 := bW.trans (hb1.mono bW.size)
        have d0 := o1.cell 0; have d1 := o1.cell 1; have d2 := o1.cell 2; have e0 := o1.free 0; have e1 := o1.free 1; have e2 := o1.free 2
        (try simp only [List.getElem?_toArray, List.getElem?_cons_zero, List.getElem?_cons_succ] at d0 d1 d2)
        go_wp2
        (try simp only [Exit.inBlock, Exit.then])
        refine bodyPost_ret_by (results_cell_row3 (by rfl) _ _ w.heap.size _ (by rfl) (load_val (((o1.store 0 _).store 1 _).store 2 _))) ?_ ?_
        · rfl
        · rw [HF.out]
          refine ⟨by unfold valR valV; dsimp only; first | rfl | (rw [← HP1.out]; rfl), ?_⟩
          (repeat' (first | (with_reducible exact Below.refl _ _) | (with_reducible assumption) | (with_reducible refine Below.alloc ?_ ?_ _) | (with_reducible refine Below.drew ?_) | (with_reducible refine Below.setCell ?_ ?_ _) | (with_reducible refine Below.trans ?_ (Below.mono (by assumption) ?_)) | go_size))
      by_cases k1 : bb = 1
      · subst k1
        have hce : (w.alloc (.cells #[.int .i64 0, .int .i64 0, .string ⟨#[]⟩] 24)).cell? (ad.add P) = some (.int .u8 1) := hce
        have hF := hF.trans ((if_neg (by decide)).trans (if_pos rfl))
        rcases hX : intF l ((P : Int) + 1) with ⟨er, n, k⟩
        rw [hX] at hF
        dsimp only at hF
        have HX := Lib.hid hX
        clear hX
        by_cases her : er = 0
        · subst her
          cases hok : okP (1, n, ⟨#[]⟩)
          · have HC := Lib.hid (show chkF (1, n, ⟨#[]⟩) (k : Nat) 0 6 = (((0, 0, ⟨#[]⟩) : Vl), (0 : Int), (6 : Int)) by unfold chkF; rw [if_pos rfl, if_neg (by rw [hok]; decide)])
            have HF := Lib.hid (hF.trans ((if_pos rfl).trans (if_neg (by rw [hok]; decide))))
            clear hF hok
            go_enter Tryd.func26, Tryd.ntmps26
            go_wp2_with fail
            generalize w.alloc (.cells #[.int .i64 0, .int .i64 0, .string ⟨#[]⟩] 24) = W at *
            have hof2 := HOF.out W bW
            with_reducible refine hof2.mono ?_
            rintro e w0 ⟨rfl, hw0⟩
            subst w0
            clear hof2
            go_wp2_with fail
            have hcl := HI.out ((P : Int) + 1) W bW
            rw [HX.out] at hcl

            with_reducible refine hcl.mono ?_
            rintro e w1 ⟨rfl, hb1⟩
            clear hcl
            have o1 := oB.below hb1 oB.lt
            have B1 := bW.trans (hb1.mono bW.size)
            have hch := checked_any (1, n, ⟨#[]⟩) (k : Nat) 0 6 (by decide) w1
            rw [HC.out] at hch
            unfold chkR valV at hch
            dsimp only at hch
            go_wp2_with fail
            with_reducible refine hch.mono ?_
            rintro e w2 ⟨rfl, hb2⟩
            clear hch
            have o2 := o1.below hb2 o1.lt
            have B2 := B1.trans (hb2.mono B1.size)
            have d0 := o2.cell 0; have d1 := o2.cell 1; have d2 := o2.cell 2; have e0 := o2.free 0; have e1 := o2.free 1; have e2 := o2.free 2
            (try simp only [List.getElem?_toArray, List.getElem?_cons_zero, List.getElem?_cons_succ] at d0 d1 d2)
            go_wp2
            (try simp only [Exit.inBlock, Exit.then])
            refine bodyPost_ret_by (results_cell_row3 (by rfl) _ _ w.heap.size _ (by rfl) (load_val (((o2.store 0 _).store 1 _).store 2 _))) ?_ ?_
            · rfl
            · rw [HF.out]
              refine ⟨rfl, ?_⟩
              (repeat' (first | (with_reducible exact Below.refl _ _) | (with_reducible assumption) | (with_reducible refine Below.alloc ?_ ?_ _) | (with_reducible refine Below.drew ?_) | (with_reducible refine Below.setCell ?_ ?_ _) | (with_reducible refine Below.trans ?_ (Below.mono (by assumption) ?_)) | go_size))
          · have HC := Lib.hid (show chkF (1, n, ⟨#[]⟩) (k : Nat) 0 6 = (((1, n, ⟨#[]⟩) : Vl), ((k : Nat) : Int), (0 : Int)) by unfold chkF; rw [if_pos rfl, if_pos hok])
            have HF := Lib.hid (hF.trans ((if_pos rfl).trans (if_pos hok)))
            clear hF hok
            go_enter Tryd.func26, Tryd.ntmps26
            go_wp2_with fail
            generalize w.alloc (.cells #[.int .i64 0, .int .i64 0, .string ⟨#[]⟩] 24) = W at *
            have hof2 := HOF.out W bW
            with_reducible refine hof2.mono ?_
            rintro e w0 ⟨rfl, hw0⟩
            subst w0
            clear hof2
            go_wp2_with fail
            have hcl := HI.out ((P : Int) + 1) W bW
            rw [HX.out] at hcl

            with_reducible refine hcl.mono ?_
            rintro e w1 ⟨rfl, hb1⟩
            clear hcl
            have o1 := oB.below hb1 oB.lt
            have B1 := bW.trans (hb1.mono bW.size)
            have hch := checked_any (1, n, ⟨#[]⟩) (k : Nat) 0 6 (by decide) w1
            rw [HC.out] at hch
            unfold chkR valV at hch
            dsimp only at hch
            go_wp2_with fail
            with_reducible refine hch.mono ?_
            rintro e w2 ⟨rfl, hb2⟩
            clear hch
            have o2 := o1.below hb2 o1.lt
            have B2 := B1.trans (hb2.mono B1.size)
            have d0 := o2.cell 0; have d1 := o2.cell 1; have d2 := o2.cell 2; have e0 := o2.free 0; have e1 := o2.free 1; have e2 := o2.free 2
            (try simp only [List.getElem?_toArray, List.getElem?_cons_zero, List.getElem?_cons_succ] at d0 d1 d2)
            go_wp2
            (try simp only [Exit.inBlock, Exit.then])
            refine bodyPost_ret_by (results_cell_row3 (by rfl) _ _ w.heap.size _ (by rfl) (load_val (((o2.store 0 _).store 1 _).store 2 _))) ?_ ?_
            · rfl
            · rw [HF.out]
              refine ⟨rfl, ?_⟩
              (repeat' (first | (with_reducible exact Below.refl _ _) | (with_reducible assumption) | (with_reducible refine Below.alloc ?_ ?_ _) | (with_reducible refine Below.drew ?_) | (with_reducible refine Below.setCell ?_ ?_ _) | (with_reducible refine Below.trans ?_ (Below.mono (by assumption) ?_)) | go_size))
        · have hei : ¬ ((er : Nat) : Int) = 0 := by omega
          have HC := Lib.hid (show chkF (1, n, ⟨#[]⟩) (k : Nat) (er : Nat) 6 = (((0, 0, ⟨#[]⟩) : Vl), (0 : Int), ((er : Nat) : Int)) by unfold chkF; rw [if_neg hei])
          have HF := Lib.hid (hF.trans (if_neg her))
          clear hF
          go_enter Tryd.func26, Tryd.ntmps26
          go_wp2_with fail
          generalize w.alloc (.cells #[.int .i64 0, .int .i64 0, .string ⟨#[]⟩] 24) = W at *
          have hof2 := HOF.out W bW
          with_reducible refine hof2.mono ?_
          rintro e w0 ⟨rfl, hw0⟩
          subst w0
          clear hof2
          go_wp2_with fail
          have hcl := HI.out ((P : Int) + 1) W bW
          rw [HX.out] at hcl

          with_reducible refine hcl.mono ?_
          rintro e w1 ⟨rfl, hb1⟩
          clear hcl
          have o1 := oB.below hb1 oB.lt
          have B1 := bW.trans (hb1.mono bW.size)
          have hch := checked_any (1, n, ⟨#[]⟩) (k : Nat) (er : Nat) 6 (by decide) w1
          rw [HC.out] at hch
          unfold chkR valV at hch
          dsimp only at hch
          go_wp2_with fail
          with_reducible refine hch.mono ?_
          rintro e w2 ⟨rfl, hb2⟩
          clear hch
          have o2 := o1.below hb2 o1.lt
          have B2 := B1.trans (hb2.mono B1.size)
          have d0 := o2.cell 0; have d1 := o2.cell 1; have d2 := o2.cell 2; have e0 := o2.free 0; have e1 := o2.free 1; have e2 := o2.free 2
          (try simp only [List.getElem?_toArray, List.getElem?_cons_zero, List.getElem?_cons_succ] at d0 d1 d2)
          go_wp2
          (try simp only [Exit.inBlock, Exit.then])
          refine bodyPost_ret_by (results_cell_row3 (by rfl) _ _ w.heap.size _ (by rfl) (load_val (((o2.store 0 _).store 1 _).store 2 _))) ?_ ?_
          · rfl
          · rw [HF.out]
            refine ⟨rfl, ?_⟩
            (repeat' (first | (with_reducible exact Below.refl _ _) | (with_reducible assumption) | (with_reducible refine Below.alloc ?_ ?_ _) | (with_reducible refine Below.drew ?_) | (with_reducible refine Below.setCell ?_ ?_ _) | (with_reducible refine Below.trans ?_ (Below.mono (by assumption) ?_)) | go_size))
      by_cases k2 : bb = 2
      · subst k2
        have hce : (w.alloc (.cells #[.int .i64 0, .int .i64 0, .string ⟨#[]⟩] 24)).cell? (ad.add P) = some (.int .u8 2) := hce
        have hF := hF.trans ((if_neg (by decide)).trans ((if_neg (by decide)).trans (if_pos rfl)))
        have hsz := txtF_size l ((P : Int) + 1) 200
        rcases hX : txtF l ((P : Int) + 1) 200 with ⟨er, n, k⟩
        rw [hX] at hF hsz
        dsimp only at hF hsz
        have HX := Lib.hid hX
        clear hX
        clear hsz
        by_cases her : er = 0
        · subst her
          cases hok : okP (2, 0, n)
          · have HC := Lib.hid (show chkF (2, 0, n) (k : Nat) 0 1 = (((0, 0, ⟨#[]⟩) : Vl), (0 : Int), (1 : Int)) by unfold chkF; rw [if_pos rfl, if_neg (by rw [hok]; decide)])
            have HF := Lib.hid (hF.trans ((if_pos rfl).trans (if_neg (by rw [hok]; decide))))
            clear hF hok
            go_enter Tryd.func26, Tryd.ntmps26
            go_wp2_with fail
            generalize w.alloc (.cells #[.int .i64 0, .int .i64 0, .string ⟨#[]⟩] 24) = W at *
            have hof2 := HOF.out W bW
            with_reducible refine hof2.mono ?_
            rintro e w0 ⟨rfl, hw0⟩
            subst w0
            clear hof2
            go_wp2_with fail
            have hcl := HT.out ((P : Int) + 1) 200 W bW
            rw [HX.out] at hcl
            unfold txtR at hcl
            with_reducible refine hcl.mono ?_
            rintro e w1 ⟨rfl, hb1⟩
            clear hcl
            have o1 := oB.below hb1 oB.lt
            have B1 := bW.trans (hb1.mono bW.size)
            have hch := checked_any (2, 0, n) (k : Nat) 0 1 (by decide) w1
            rw [HC.out] at hch
            unfold chkR valV at hch
            dsimp only at hch
            go_wp2_with fail
            with_reducible refine hch.mono ?_
            rintro e w2 ⟨rfl, hb2⟩
            clear hch
            have o2 := o1.below hb2 o1.lt
            have B2 := B1.trans (hb2.mono B1.size)
            have d0 := o2.cell 0; have d1 := o2.cell 1; have d2 := o2.cell 2; have e0 := o2.free 0; have e1 := o2.free 1; have e2 := o2.free 2
            (try simp only [List.getElem?_toArray, List.getElem?_cons_zero, List.getElem?_cons_succ] at d0 d1 d2)
            go_wp2
            (try simp only [Exit.inBlock, Exit.then])
            refine bodyPost_ret_by (results_cell_row3 (by rfl) _ _ w.heap.size _ (by rfl) (load_val (((o2.store 0 _).store 1 _).store 2 _))) ?_ ?_
            · rfl
            · rw [HF.out]
              refine ⟨rfl, ?_⟩
              (repeat' (first | (with_reducible exact Below.refl _ _) | (with_reducible assumption) | (with_reducible refine Below.alloc ?_ ?_ _) | (with_reducible refine Below.drew ?_) | (with_reducible refine Below.setCell ?_ ?_ _) | (with_reducible refine Below.trans ?_ (Below.mono (by assumption) ?_)) | go_size))
          · have HC := Lib.hid (show chkF (2, 0, n) (k : Nat) 0 1 = (((2, 0, n) : Vl), ((k : Nat) : Int), (0 : Int)) by unfold chkF; rw [if_pos rfl, if_pos hok])
            have HF := Lib.hid (hF.trans ((if_pos rfl).trans (if_pos hok)))
            clear hF hok
            go_enter Tryd.func26, Tryd.ntmps26
            go_wp2_with fail
            generalize w.alloc (.cells #[.int .i64 0, .int .i64 0, .string ⟨#[]⟩] 24) = W at *
            have hof2 := HOF.out W bW
            with_reducible refine hof2.mono ?_
            rintro e w0 ⟨rfl, hw0⟩
            subst w0
            clear hof2
            go_wp2_with fail
            have hcl := HT.out ((P : Int) + 1) 200 W bW
            rw [HX.out] at hcl
            unfold txtR at hcl
            with_reducible refine hcl.mono ?_
            rintro e w1 ⟨rfl, hb1⟩
            clear hcl
            have o1 := oB.below hb1 oB.lt
            have B1 := bW.trans (hb1.mono bW.size)
            have hch := checked_any (2, 0, n) (k : Nat) 0 1 (by decide) w1
            rw [HC.out] at hch
            unfold chkR valV at hch
            dsimp only at hch
            go_wp2_with fail
            with_reducible refine hch.mono ?_
            rintro e w2 ⟨rfl, hb2⟩
            clear hch
            have o2 := o1.below hb2 o1.lt
            have B2 := B1.trans (hb2.mono B1.size)
            have d0 := o2.cell 0; have d1 := o2.cell 1; have d2 := o2.cell 2; have e0 := o2.free 0; have e1 := o2.free 1; have e2 := o2.free 2
            (try simp only [List.getElem?_toArray, List.getElem?_cons_zero, List.getElem?_cons_succ] at d0 d1 d2)
            go_wp2
            (try simp only [Exit.inBlock, Exit.then])
            refine bodyPost_ret_by (results_cell_row3 (by rfl) _ _ w.heap.size _ (by rfl) (load_val (((o2.store 0 _).store 1 _).store 2 _))) ?_ ?_
            · rfl
            · rw [HF.out]
              refine ⟨rfl, ?_⟩
              (repeat' (first | (with_reducible exact Below.refl _ _) | (with_reducible assumption) | (with_reducible refine Below.alloc ?_ ?_ _) | (with_reducible refine Below.drew ?_) | (with_reducible refine Below.setCell ?_ ?_ _) | (with_reducible refine Below.trans ?_ (Below.mono (by assumption) ?_)) | go_size))
        · have hei : ¬ ((er : Nat) : Int) = 0 := by omega
          have HC := Lib.hid (show chkF (2, 0, n) (k : Nat) (er : Nat) 1 = (((0, 0, ⟨#[]⟩) : Vl), (0 : Int), ((er : Nat) : Int)) by unfold chkF; rw [if_neg hei])
          have HF := Lib.hid (hF.trans (if_neg her))
          clear hF
          go_enter Tryd.func26, Tryd.ntmps26
          go_wp2_with fail
          generalize w.alloc (.cells #[.int .i64 0, .int .i64 0, .string ⟨#[]⟩] 24) = W at *
          have hof2 := HOF.out W bW
          with_reducible refine hof2.mono ?_
          rintro e w0 ⟨rfl, hw0⟩
          subst w0
          clear hof2
          go_wp2_with fail
          have hcl := HT.out ((P : Int) + 1) 200 W bW
          rw [HX.out] at hcl
          unfold txtR at hcl
          with_reducible refine hcl.mono ?_
          rintro e w1 ⟨rfl, hb1⟩
          clear hcl
          have o1 := oB.below hb1 oB.lt
          have B1 := bW.trans (hb1.mono bW.size)
          have hch := checked_any (2, 0, n) (k : Nat) (er : Nat) 1 (by decide) w1
          rw [HC.out] at hch
          unfold chkR valV at hch
          dsimp only at hch
          go_wp2_with fail
          with_reducible refine hch.mono ?_
          rintro e w2 ⟨rfl, hb2⟩
          clear hch
          have o2 := o1.below hb2 o1.lt
          have B2 := B1.trans (hb2.mono B1.size)
          have d0 := o2.cell 0; have d1 := o2.cell 1; have d2 := o2.cell 2; have e0 := o2.free 0; have e1 := o2.free 1; have e2 := o2.free 2
          (try simp only [List.getElem?_toArray, List.getElem?_cons_zero, List.getElem?_cons_succ] at d0 d1 d2)
          go_wp2
          (try simp only [Exit.inBlock, Exit.then])
          refine bodyPost_ret_by (results_cell_row3 (by rfl) _ _ w.heap.size _ (by rfl) (load_val (((o2.store 0 _).store 1 _).store 2 _))) ?_ ?_
          · rfl
          · rw [HF.out]
            refine ⟨rfl, ?_⟩
            (repeat' (first | (with_reducible exact Below.refl _ _) | (with_reducible assumption) | (with_reducible refine Below.alloc ?_ ?_ _) | (with_reducible refine Below.drew ?_) | (with_reducible refine Below.setCell ?_ ?_ _) | (with_reducible refine Below.trans ?_ (Below.mono (by assumption) ?_)) | go_size))
      by_cases k3 : bb = 3
      · subst k3
        have hce : (w.alloc (.cells #[.int .i64 0, .int .i64 0, .string ⟨#[]⟩] 24)).cell? (ad.add P) = some (.int .u8 3) := hce
        have HF := Lib.hid (hF.trans ((if_neg (by decide)).trans ((if_neg (by decide)).trans ((if_neg (by decide)).trans (if_pos rfl)))))
        clear hF
        go_enter Tryd.func26, Tryd.ntmps26
        go_wp2_with fail
        generalize w.alloc (.cells #[.int .i64 0, .int .i64 0, .string ⟨#[]⟩] 24) = W at *
        have hof2 := HOF.out W bW
        with_reducible refine hof2.mono ?_
        rintro e w0 ⟨rfl, hw0⟩
        subst w0
        clear hof2
        have hBL := (pBool_any false W : Calls Tryd.prog 32 #[.bool false] W fun e w' => e = .returned (.agg #[.int .i64 3, .int .i64 0, .string ⟨#[]⟩]) ∧ Below W.heap.size W w')
        go_wp2_with fail
        have hcl := hBL
        with_reducible refine hcl.mono ?_
        rintro e w1 ⟨rfl, hb1⟩
        clear hcl
        have o1 := oB.below hb1 oB.lt
        have B1 := bW.trans (hb1.mono bW.size)
        have d0 := o1.cell 0; have d1 := o1.cell 1; have d2 := o1.cell 2; have e0 := o1.free 0; have e1 := o1.free 1; have e2 := o1.free 2
        (try simp only [List.getElem?_toArray, List.getElem?_cons_zero, List.getElem?_cons_succ] at d0 d1 d2)
        go_wp2
        (try simp only [Exit.inBlock, Exit.then])
        refine bodyPost_ret_by (results_cell_row3 (by rfl) _ _ w.heap.size _ (by rfl) (load_val (((o1.store 0 _).store 1 _).store 2 _))) ?_ ?_
        · rfl
        · rw [HF.out]
          refine ⟨by unfold valR valV; dsimp only; first | rfl | (rw [← HP1.out]; rfl), ?_⟩
          (repeat' (first | (with_reducible exact Below.refl _ _) | (with_reducible assumption) | (with_reducible refine Below.alloc ?_ ?_ _) | (with_reducible refine Below.drew ?_) | (with_reducible refine Below.setCell ?_ ?_ _) | (with_reducible refine Below.trans ?_ (Below.mono (by assumption) ?_)) | go_size))
      by_cases k4 : bb = 4
      · subst k4
        have hce : (w.alloc (.cells #[.int .i64 0, .int .i64 0, .string ⟨#[]⟩] 24)).cell? (ad.add P) = some (.int .u8 4) := hce
        have HF := Lib.hid (hF.trans ((if_neg (by decide)).trans ((if_neg (by decide)).trans ((if_neg (by decide)).trans ((if_neg (by decide)).trans (if_pos rfl))))))
        clear hF
        go_enter Tryd.func26, Tryd.ntmps26
        go_wp2_with fail
        generalize w.alloc (.cells #[.int .i64 0, .int .i64 0, .string ⟨#[]⟩] 24) = W at *
        have hof2 := HOF.out W bW
        with_reducible refine hof2.mono ?_
        rintro e w0 ⟨rfl, hw0⟩
        subst w0
        clear hof2
        have hBL := (pBool_any true W : Calls Tryd.prog 32 #[.bool true] W fun e w' => e = .returned (.agg #[.int .i64 3, .int .i64 1, .string ⟨#[]⟩]) ∧ Below W.heap.size W w')
        go_wp2_with fail
        have hcl := hBL
        with_reducible refine hcl.mono ?_
        rintro e w1 ⟨rfl, hb1⟩
        clear hcl
        have o1 := oB.below hb1 oB.lt
        have B1 := bW.trans (hb1.mono bW.size)
        have d0 := o1.cell 0; have d1 := o1.cell 1; have d2 := o1.cell 2; have e0 := o1.free 0; have e1 := o1.free 1; have e2 := o1.free 2
        (try simp only [List.getElem?_toArray, List.getElem?_cons_zero, List.getElem?_cons_succ] at d0 d1 d2)
        go_wp2
        (try simp only [Exit.inBlock, Exit.then])
        refine bodyPost_ret_by (results_cell_row3 (by rfl) _ _ w.heap.size _ (by rfl) (load_val (((o1.store 0 _).store 1 _).store 2 _))) ?_ ?_
        · rfl
        · rw [HF.out]
          refine ⟨by unfold valR valV; dsimp only; first | rfl | (rw [← HP1.out]; rfl), ?_⟩
          (repeat' (first | (with_reducible exact Below.refl _ _) | (with_reducible assumption) | (with_reducible refine Below.alloc ?_ ?_ _) | (with_reducible refine Below.drew ?_) | (with_reducible refine Below.setCell ?_ ?_ _) | (with_reducible refine Below.trans ?_ (Below.mono (by assumption) ?_)) | go_size))
      · have HF := Lib.hid (hF.trans ((if_neg k0).trans ((if_neg k1).trans ((if_neg k2).trans ((if_neg k3).trans (if_neg k4))))))
        have j0 : ((bb : Int) == 0) = false := by rw [beq_eq_false_iff_ne]; omega
        have j1 : ((bb : Int) == 1) = false := by rw [beq_eq_false_iff_ne]; omega
        have j2 : ((bb : Int) == 2) = false := by rw [beq_eq_false_iff_ne]; omega
        have j3 : ((bb : Int) == 3) = false := by rw [beq_eq_false_iff_ne]; omega
        have j4 : ((bb : Int) == 4) = false := by rw [beq_eq_false_iff_ne]; omega
        clear hF k0 k1 k2 k3 k4
        go_enter Tryd.func26, Tryd.ntmps26
        go_wp2_with fail
        generalize w.alloc (.cells #[.int .i64 0, .int .i64 0, .string ⟨#[]⟩] 24) = W at *
        have hof2 := HOF.out W bW
        with_reducible refine hof2.mono ?_
        rintro e w0 ⟨rfl, hw0⟩
        subst w0
        clear hof2
        have d0 := oB.cell 0; have d1 := oB.cell 1; have d2 := oB.cell 2; have e0 := oB.free 0; have e1 := oB.free 1; have e2 := oB.free 2
        (try simp only [List.getElem?_toArray, List.getElem?_cons_zero, List.getElem?_cons_succ] at d0 d1 d2)
        go_wp2
        (try simp only [Exit.inBlock, Exit.then])
        refine bodyPost_ret_by (results_cell_row3 (by rfl) _ _ w.heap.size _ (by rfl) (load_val (((oB.store 0 _).store 1 _).store 2 _))) ?_ ?_
        · rfl
        · rw [HF.out]
          refine ⟨rfl, ?_⟩
          (repeat' (first | (with_reducible exact Below.refl _ _) | (with_reducible assumption) | (with_reducible refine Below.alloc ?_ ?_ _) | (with_reducible refine Below.drew ?_) | (with_reducible refine Below.setCell ?_ ?_ _) | (with_reducible refine Below.trans ?_ (Below.mono (by assumption) ?_)) | go_size))
    · have hPP : P = l.length := by omega
      have HF := Lib.hid (show valF l P = (2, (0, 0, ⟨#[]⟩), 0) by unfold valF; rw [if_neg (by omega), if_pos (by omega)])
      clear h0 hlt
      subst hPP
      go_enter Tryd.func26, Tryd.ntmps26
      go_wp2_with fail
      generalize w.alloc (.cells #[.int .i64 0, .int .i64 0, .string ⟨#[]⟩] 24) = W at *
      have hof2 := HOF.out W bW
      with_reducible refine hof2.mono ?_
      rintro e w0 ⟨rfl, hw0⟩
      subst w0
      clear hof2
      have d0 := oB.cell 0; have d1 := oB.cell 1; have d2 := oB.cell 2; have e0 := oB.free 0; have e1 := oB.free 1; have e2 := oB.free 2
      (try simp only [List.getElem?_toArray, List.getElem?_cons_zero, List.getElem?_cons_succ] at d0 d1 d2)
      go_wp2
      (try simp only [Exit.inBlock, Exit.then])
      refine bodyPost_ret_by (results_cell_row3 (by rfl) _ _ w.heap.size _ (by rfl) (load_val (((oB.store 0 _).store 1 _).store 2 _))) ?_ ?_
      · rfl
      · rw [HF.out]
        refine ⟨rfl, ?_⟩
        (repeat' (first | (with_reducible exact Below.refl _ _) | (with_reducible assumption) | (with_reducible refine Below.alloc ?_ ?_ _) | (with_reducible refine Below.drew ?_) | (with_reducible refine Below.setCell ?_ ?_ _) | (with_reducible refine Below.trans ?_ (Below.mono (by assumption) ?_)) | go_size))
  · have HF := Lib.hid (show valF l i = (6, (0, 0, ⟨#[]⟩), 0) by unfold valF; rw [if_pos (by omega)])
    have hof1 := fun W h => (by have h1 := hof W h; rw [decide_eq_false h0] at h1; exact h1 : Calls Tryd.prog 36 #[.slice A l.length c, .int .i64 i] W fun e w' => e = .returned (.bool false) ∧ w' = W)
    have HOF := Lib.hid hof1
    clear hof hof1 h0
    go_enter Tryd.func26, Tryd.ntmps26
    go_wp2_with fail
    generalize w.alloc (.cells #[.int .i64 0, .int .i64 0, .string ⟨#[]⟩] 24) = W at *
    have hof2 := HOF.out W bW
    with_reducible refine hof2.mono ?_
    rintro e w0 ⟨rfl, hw0⟩
    subst w0
    clear hof2
    have d0 := oB.cell 0; have d1 := oB.cell 1; have d2 := oB.cell 2; have e0 := oB.free 0; have e1 := oB.free 1; have e2 := oB.free 2
    (try simp only [List.getElem?_toArray, List.getElem?_cons_zero, List.getElem?_cons_succ] at d0 d1 d2)
    go_wp2
    (try simp only [Exit.inBlock, Exit.then])
    refine bodyPost_ret_by (results_cell_row3 (by rfl) _ _ w.heap.size _ (by rfl) (load_val (((oB.store 0 _).store 1 _).store 2 _))) ?_ ?_
    · rfl
    · rw [HF.out]
      refine ⟨rfl, ?_⟩
      (repeat' (first | (with_reducible exact Below.refl _ _) | (with_reducible assumption) | (with_reducible refine Below.alloc ?_ ?_ _) | (with_reducible refine Below.drew ?_) | (with_reducible refine Below.setCell ?_ ?_ _) | (with_reducible refine Below.trans ?_ (Below.mono (by assumption) ?_)) | go_size))
end Go.Proofs.YtclpemmpckjemaaDoor
