import Derived.Test.YtdhemhmgenhmaaaGreatQT
import Derived.Test.YtdhemhmgenhmaaaGreatMX
import Derived.WalkKit
import Derived.WalkSpells
import Derived.WalkLawsBesides
import Derived.Deep.QuietTactic
import Derived.BigQuiet
import Derived.Handy
import Derived.Lib.Hide
import Derived.Test.YtdhemhmgenhmaaaGreatQV
import Derived.Deep.RegionHeld3
set_option maxRecDepth 100000
set_option maxHeartbeats 25600000
set_option linter.unusedVariables false
set_option linter.unusedSimpArgs false
/-
  Relations between the periods of four arguments, by the program. Conditions: none.
-/
namespace Go.Proofs.YtdhemhmgenhmaaaGreat
open Go.RowKit
def relP (rel : Int) (l : List Vl) : Vl := if (l.take 4).all (fun p => p.1 == 1) then
  (if Aln.bothV (l.getD 0 nullP).2.1 (l.getD 1 nullP).2.1 (l.getD 2 nullP).2.1 (l.getD 3 nullP).2.1 then booP (Aln.relR (l.getD 0 nullP).2.1 (l.getD 1 nullP).2.1 (l.getD 2 nullP).2.1 (l.getD 3 nullP).2.1 == rel) else nullP) else nullP
theorem pRelated_any (rel : Int) (l : List Vl) (p q : Addr) (w : World) (hA : Args w (.pointer (some p)) (.pointer (some q)) l) (hl : l.length = 4) :
  Calls Tryz.prog 62 #[.int .i64 rel, .func (.func 49) #[] #[.pointer (some p), .pointer (some q)]] w fun e w' => e = .returned (valV (relP rel l)) ∧ Below w.heap.size w w' := by
 have HA := Lib.hid hA
 have b1 := bel_mk w (.cells #[.int .i64 0, .int .i64 0, .string ⟨#[]⟩] 23)
 have HB1 := Lib.hid (b1.trans ((bel_mk (w.alloc (.cells #[.int .i64 0, .int .i64 0, .string ⟨#[]⟩] 23)) (.cells #[.int .i64 0, .int .i64 0, .int .i64 0, .int .i64 0] 105)).mono b1.size))
 have HO0 := Lib.hid ((own_onez w).alloc (.cells #[.int .i64 0, .int .i64 0, .int .i64 0, .int .i64 0] 105))
 have HO1 := Lib.hid (show Own ((w.alloc (.cells #[.int .i64 0, .int .i64 0, .string ⟨#[]⟩] 23)).alloc (.cells #[.int .i64 0, .int .i64 0, .int .i64 0, .int .i64 0] 105)) (w.heap.size + 1) 105 (rowZ ((l.take 0).map fun p => p.2.1) 4) from Va.own_two _)
 clear b1 hA
 go_enter Tryz.func62, Tryz.ntmps62
 go_wp2_with fail
 go_loopw [6, 7, 10] (fun _ _ i wr => ∃ k : Nat, k ≤ 4 ∧ i = .int .i64 k ∧ Hid ((l.take k).all (fun p => p.1 == 1) = true) ∧ Hid (Own wr (w.heap.size + 1) 105 (rowZ ((l.take k).map fun p => p.2.1) 4)) ∧ Hid (Own wr w.heap.size 23 #[.int .i64 0, .int .i64 0, .string ⟨#[]⟩]) ∧ Below w.heap.size w wr) (fun _ _ i _ => 4 - (intOf i).toNat)
 case atStart => exact ⟨0, by omega, rfl, Lib.hid rfl, HO1, HO0, HB1.out⟩
 case round =>
  obtain ⟨k, hk, rfl, HK, HR, HO, hbr⟩ := hrel
  have hbz := hbr.size
  clear HO1 HO0 HB1
  by_cases hlt : k < 4
  ·have hki : (k : Int) < 4 := by omega
   have hlt2 : k < l.length := by omega
   have hcall := HA.out k wr hlt2 hbr
   rw [show l.getD k nullP = l[k] by simp [List.getD, List.getElem?_eq_getElem hlt2]] at hcall
   have htk : (l.take (k + 1)).map (fun p => p.2.1) = (l.take k).map (fun p => p.2.1) ++ [l[k].2.1] := by rw [List.take_add_one, List.getElem?_eq_getElem hlt2, List.map_append]; rfl
   have hta : (l.take (k + 1)).all (fun p => p.1 == 1) = (l[k].1 == 1) := by rw [List.take_add_one, List.getElem?_eq_getElem hlt2, List.all_append, HK.out]; simp
   have hrl : l[k].1 ≠ 1 → relP rel l = nullP := by
    intro hne
    unfold relP
    have hm : l[k] ∈ l.take 4 := by rw [List.take_of_length_le (by omega)]; exact List.getElem_mem hlt2
    rw [if_neg]
    intro hall
    have := List.all_eq_true.1 hall _ hm
    exact hne (by simpa using this)
   have hlz : ((l.take k).map fun p => p.2.1).length = k := by rw [List.length_map, List.length_take]; omega
   have hz0 := rowZ_next ((l.take k).map fun p => p.2.1) 4 (by rw [hlz]; exact hlt)
   rw [hlz] at hz0
   generalize l[k] = p1 at *
   obtain ⟨kd, n, s⟩ := p1
   dsimp only at htk hta hrl
   have hz1 := rowZ_set ((l.take k).map fun p => p.2.1) 4 n (by rw [hlz]; exact hlt)
   rw [hlz, ← htk] at hz1
   unfold valV at hcall
   have HC := Lib.hid hcall
   have HZ0 := Lib.hid hz0
   have HZ1 := Lib.hid hz1
   have HTA := Lib.hid hta
   have HRL := Lib.hid hrl
   clear hcall hz0 hz1 hta hrl htk hlz HK
   go_wp2_with fail
   with_reducible refine HC.out.mono ?_
   rintro e w1 ⟨rfl, hb1⟩
   have o1 := HO.out.below hb1 HO.out.lt
   have r1 := HR.out.below hb1 HR.out.lt
   have B1 := hbr.trans (hb1.mono hbz)
   have o2 := o1.alloc (.cells #[.int .i64 kd, .int .i64 n, .string s] 23)
   have r2 := r1.alloc (.cells #[.int .i64 kd, .int .i64 n, .string s] 23)
   have B2 := B1.trans ((bel_mk w1 (.cells #[.int .i64 kd, .int .i64 n, .string s] 23)).mono B1.size)
   have HO2 := Lib.hid o2
   have HB2 := Lib.hid B2
   have f0 := (r2.cell k).trans HZ0.out
   have f1 := r2.free k
   have r3 := r2.store k (.int .i64 n)
   rw [HZ1.out] at r3
   have HR3 := Lib.hid r3
   have HO3 := Lib.hid (o2.far (p := ⟨w.heap.size + 1, k, none⟩) (by show w.heap.size ≠ w.heap.size + 1; omega) (.int .i64 n))
   have HB3 := Lib.hid (B2.sc (w.heap.size + 1) k (.int .i64 n))
   clear hb1 o1 r1 B1 o2 r2 B2 r3 HZ0 HZ1 HO HR HC
   by_cases k1 : kd = 1
   ·subst k1
    have HA2 := Lib.hid (show (l.take (k + 1)).all (fun p => p.1 == 1) = true by rw [HTA.out]; rfl)
    clear HTA HRL
    go_wp2
    go_roundw
    case rel => exact ⟨k + 1, by omega, by go_num, HA2, HR3, HO3, HB3.out⟩
    case measure => simp [intOf]; omega
   ·have hN := fun W => eNull W
    rw [← HRL.out k1] at hN
    have hq : relP rel l = (0, 0, ⟨#[]⟩) := HRL.out k1
    rw [hq] at hN
    have e1 : (kd != 1) = true := by simp [k1]
    have HQ := Lib.hid hq
    unfold valV at hN
    dsimp only at hN
    have HN := Lib.hid hN
    clear HRL hN hq HTA f0 f1 HR3 HO3 HB3
    go_wp2_with fail
    with_reducible refine (HN.out _).mono ?_
    rintro e w2 ⟨rfl, hb2⟩
    have o3 := HO2.out.below hb2 HO2.out.lt
    have B3 := HB2.out.trans (hb2.mono HB2.out.size)
    have d0 := o3.cell 0; have e0 := o3.free 0; have d1 := o3.cell 1; have e1 := o3.free 1; have d2 := o3.cell 2; have e2 := o3.free 2; (try simp only [List.getElem?_toArray, List.getElem?_cons_zero, List.getElem?_cons_succ] at d0 d1 d2)
    clear hb2
    go_wp2
    (try simp only [Exit.inBlock, Exit.then]); refine bodyPost_ret_by (results_cell_row1 (by rfl) _ _ (w.heap.size) _ (by rfl) (load_val (((o3.store 0 _).store 1 _).store 2 _))) ?_ ?_; (focus rfl); refine ⟨by rw [HQ.out]; rfl, ?_⟩
    (repeat' first | (with_reducible first | exact Below.refl _ _ | assumption | refine Below.alloc ?_ ?_ _ | refine Below.drew ?_ | refine Below.setCell ?_ ?_ _ | refine Below.trans ?_ (Below.mono (by assumption) ?_)) | go_size)
  ·have hki : ¬ (k : Int) < 4 := by omega
   obtain rfl : k = 4 := by omega
   obtain ⟨p0, p1, p2, p3, hL⟩ : ∃ p0 p1 p2 p3, l = [p0, p1, p2, p3] := by
    match l, hl with
    | [p0, p1, p2, p3], _ => exact ⟨p0, p1, p2, p3, rfl⟩
   focus
    have hr0 := HR.out
    have hk0 := HK.out
    rw [hL] at hr0 hk0
    unfold rowZ at hr0
    simp only [List.take_succ_cons, List.take_zero, List.map_cons, List.map_nil, List.length_cons, List.length_nil, Nat.sub_self, List.replicate_zero, List.append_nil] at hr0
    have c0 := hr0.cell 0
    have c1 := hr0.cell 1
    have c2 := hr0.cell 2
    have c3 := hr0.cell 3
    simp only [List.getElem?_toArray, List.getElem?_cons_zero, List.getElem?_cons_succ] at c0 c1 c2 c3
    have hrp : relP rel l = if Aln.bothV p0.2.1 p1.2.1 p2.2.1 p3.2.1 then booP (Aln.relR p0.2.1 p1.2.1 p2.2.1 p3.2.1 == rel) else nullP := by
     rw [hL]
     unfold relP
     have : ([p0, p1, p2, p3].take 4).all (fun p => p.1 == 1) = true := hk0
     rw [if_pos this]; rfl
    have hrel := fun W => Aln.rel_any p0.2.1 p1.2.1 p2.2.1 p3.2.1 W
    unfold Aln.relRes at hrel
    generalize p0.2.1 = a at *
    generalize p1.2.1 = b at *
    generalize p2.2.1 = c at *
    generalize p3.2.1 = d at *
    generalize Aln.relR a b c d = R at *
    have HREL := Lib.hid hrel
    have HRP := Lib.hid hrp
    clear hr0 hk0 HR HK hrel hrp HA hL
    cases hb : Aln.bothV a b c d
    ·have HQ := Lib.hid (show relP rel l = nullP by have := HRP.out; rwa [hb, if_neg (by simp)] at this)
     rw [hb] at HREL
     have HN := Lib.hid (show ∀ W, Calls Tryz.prog 14 #[] W fun e w' => e = .returned (.agg #[.int .i64 0, .int .i64 0, .string ⟨#[]⟩]) ∧ Below W.heap.size W w' from fun W => eNull W)
     clear hb HRP
     go_wp2_with fail
     with_reducible refine (HREL.out _).mono ?_
     rintro e w1 ⟨rfl, hb1⟩
     have o1 := HO.out.below hb1 HO.out.lt
     have B1 := hbr.trans (hb1.mono hbz)
     go_wp2_with fail
     with_reducible refine (HN.out _).mono ?_
     rintro e w2 ⟨rfl, hb2⟩
     have o3 := o1.below hb2 o1.lt
     have B3 := B1.trans (hb2.mono B1.size)
     have d0 := o3.cell 0; have e0 := o3.free 0; have d1 := o3.cell 1; have e1 := o3.free 1; have d2 := o3.cell 2; have e2 := o3.free 2; (try simp only [List.getElem?_toArray, List.getElem?_cons_zero, List.getElem?_cons_succ] at d0 d1 d2)
     clear hb2 hb1
     go_wp2
     (try simp only [Exit.inBlock, Exit.then]); refine bodyPost_ret_by (results_cell_row1 (by rfl) _ _ (w.heap.size) _ (by rfl) (load_val (((o3.store 0 _).store 1 _).store 2 _))) ?_ ?_; (focus rfl); refine ⟨by rw [HQ.out]; rfl, ?_⟩
     (repeat' first | (with_reducible first | exact Below.refl _ _ | assumption | refine Below.alloc ?_ ?_ _ | refine Below.drew ?_ | refine Below.setCell ?_ ?_ _ | refine Below.trans ?_ (Below.mono (by assumption) ?_)) | go_size)
    ·have HQ := Lib.hid (show relP rel l = booP (R == rel) by have := HRP.out; rwa [hb, if_pos rfl] at this)
     rw [hb] at HREL
     have hB := fun W => eBool (R == rel) W
     generalize booP (R == rel) = r at *
     obtain ⟨r1, r2, r3⟩ := r
     unfold valV at *
     dsimp only at hB ⊢
     have HB := Lib.hid hB
     clear hb HRP hB
     go_wp2_with fail
     with_reducible refine (HREL.out _).mono ?_
     rintro e w1 ⟨rfl, hb1⟩
     have o1 := HO.out.below hb1 HO.out.lt
     have B1 := hbr.trans (hb1.mono hbz)
     go_wp2_with fail
     with_reducible refine (HB.out _).mono ?_
     rintro e w2 ⟨rfl, hb2⟩
     have o3 := o1.below hb2 o1.lt
     have B3 := B1.trans (hb2.mono B1.size)
     have d0 := o3.cell 0; have e0 := o3.free 0; have d1 := o3.cell 1; have e1 := o3.free 1; have d2 := o3.cell 2; have e2 := o3.free 2; (try simp only [List.getElem?_toArray, List.getElem?_cons_zero, List.getElem?_cons_succ] at d0 d1 d2)
     clear hb2 hb1
     go_wp2
     (try simp only [Exit.inBlock, Exit.then]); refine bodyPost_ret_by (results_cell_row1 (by rfl) _ _ (w.heap.size) _ (by rfl) (load_val (((o3.store 0 _).store 1 _).store 2 _))) ?_ ?_; (focus rfl); refine ⟨by rw [HQ.out]; rfl, ?_⟩
     (repeat' first | (with_reducible first | exact Below.refl _ _ | assumption | refine Below.alloc ?_ ?_ _ | refine Below.drew ?_ | refine Below.setCell ?_ ?_ _ | refine Below.trans ?_ (Below.mono (by assumption) ?_)) | go_size)
def getP (l : List Vl) (i : Nat) : Vl := l.getD i nullP
def opE (op n : Int) (v : Vl) (row l : List Vl) : Vl :=
 if op = 1 then v
 else if op = 2 then colP row n
 else if op = 4 ∨ op = 5 ∨ op = 6 then ofP (logP op l)
 else if op = 7 ∨ op = 8 ∨ op = 9 ∨ op = 10 ∨ op = 11 ∨ op = 12 then ofP (cmqP op (getP l 0) (getP l 1))
 else if op = 13 ∨ op = 14 ∨ op = 15 ∨ op = 16 ∨ op = 17 then ariP op (getP l 0) (getP l 1)
 else if op = 18 then ariP 14 (intP 0) (getP l 0)
 else if op = 19 then catP (getP l 0) (getP l 1)
 else if op = 20 then lenP (getP l 0)
 else if op = 21 then booP ((getP l 0).1 == 0)
 else if op = 22 then (if truP (getP l 0) = 2 then getP l 1 else getP l 2)
 else if op = 23 then fstP l
 else relP n l
def evE (row : List Vl) : Nat → Ex → Vl
 | 0, _ => nullP
 | d + 1, e => if wfE e.op e.n e.v.1 e.v.2.1 e.v.2.2 e.nm e.args.length then opE e.op e.n e.v row (e.args.map (evE row d)) else nullP
theorem vld_null : vldP nullP = true := by simp [vldP, nullP, Va.vldV, Va.emp]
theorem vld_nrm (p : Vl) : vldP (nrmP p) = true := by
 unfold nrmP
 split
 ·assumption
 ·exact vld_null
theorem vld_boo (b : Bool) : vldP (booP b) = true := by cases b <;> simp [vldP, booP, Va.vldV, Va.emp]
theorem vld_of (t : Int) : vldP (ofP t) = true := by
 unfold ofP
 split
 ·exact vld_boo _
 ·split
  ·exact vld_boo _
  ·exact vld_null
theorem vld_col (row : List Vl) (i : Int) : vldP (colP row i) = true := by
 unfold colP
 split
 ·split
  ·exact vld_nrm _
  ·exact vld_null
 ·exact vld_null
theorem vld_mul (x y : Int) : vldP (mulP x y) = true := by
 unfold mulP
 split
 ·exact vld_null
 ·exact vld_nrm _
theorem vld_ari (op : Int) (p q : Vl) : vldP (ariP op p q) = true := by
 unfold ariP
 repeat' (first | exact vld_nrm _ | exact vld_null | exact vld_mul _ _ | split)
theorem vld_fst : ∀ l : List Vl, (∀ p ∈ l, vldP p = true) → vldP (fstP l) = true
 | [], _ => vld_null
 | p :: l, h => by
  unfold fstP
  split
  ·exact vld_fst l fun q hq => h q (List.mem_cons_of_mem _ hq)
  ·exact h p (List.mem_cons_self ..)
theorem vld_get (l : List Vl) (h : ∀ p ∈ l, vldP p = true) (i : Nat) : vldP (getP l i) = true := by
 unfold getP
 rw [List.getD_eq_getElem?_getD]
 cases hi : l[i]? with
 | none => exact vld_null
 | some p => exact h p (List.mem_of_getElem? hi)
theorem vld_rel (n : Int) (l : List Vl) : vldP (relP n l) = true := by
 unfold relP
 repeat' (first | exact vld_boo _ | exact vld_null | split)
theorem vld_cat (p q : Vl) : vldP (catP p q) = true := by
 unfold catP
 split
 ·exact vld_nrm _
 ·exact vld_null
theorem vld_leng (p : Vl) : vldP (lenP p) = true := by
 unfold lenP
 split
 ·exact vld_nrm _
 ·exact vld_null
theorem vld_if (c : Prop) [Decidable c] (p q : Vl) (hp : vldP p = true) (hq : vldP q = true) : vldP (if c then p else q) = true := by
 split
 ·exact hp
 ·exact hq
theorem vld_opE (op n : Int) (v : Vl) (row l : List Vl) (hv : op = 1 → vldP v = true) (h : ∀ p ∈ l, vldP p = true) : vldP (opE op n v row l) = true := by
 unfold opE
 by_cases h1 : op = 1
 ·rw [if_pos h1]; exact hv h1
 rw [if_neg h1]
 by_cases h2 : op = 2
 ·rw [if_pos h2]; exact vld_col _ _
 rw [if_neg h2]
 by_cases h3 : op = 4 ∨ op = 5 ∨ op = 6
 ·rw [if_pos h3]; exact vld_of _
 rw [if_neg h3]
 by_cases h4 : op = 7 ∨ op = 8 ∨ op = 9 ∨ op = 10 ∨ op = 11 ∨ op = 12
 ·rw [if_pos h4]; exact vld_of _
 rw [if_neg h4]
 by_cases h5 : op = 13 ∨ op = 14 ∨ op = 15 ∨ op = 16 ∨ op = 17
 ·rw [if_pos h5]; exact vld_ari _ _ _
 rw [if_neg h5]
 by_cases h6 : op = 18
 ·rw [if_pos h6]; exact vld_ari _ _ _
 rw [if_neg h6]
 by_cases h7 : op = 19
 ·rw [if_pos h7]; exact vld_cat _ _
 rw [if_neg h7]
 by_cases h8 : op = 20
 ·rw [if_pos h8]; exact vld_leng _
 rw [if_neg h8]
 by_cases h9 : op = 21
 ·rw [if_pos h9]; exact vld_boo _
 rw [if_neg h9]
 by_cases h10 : op = 22
 ·rw [if_pos h10]; exact vld_if _ _ _ (vld_get l h _) (vld_get l h _)
 rw [if_neg h10]
 by_cases h11 : op = 23
 ·rw [if_pos h11]; exact vld_fst l h
 rw [if_neg h11]
 exact vld_rel n l
theorem wf_const {op n k m : Int} {s nm : ByteArray} {l : Nat} (h : wfE op n k m s nm l = true) (ho : op = 1) : Va.vldV k m s = true := by
 subst ho
 unfold wfE fldE at h
 rw [if_pos rfl] at h
 simp only [Bool.and_eq_true] at h
 exact h.2.1.1
theorem vld_evE (row : List Vl) : ∀ (d : Nat) (e : Ex), vldP (evE row d e) = true
 | 0, _ => vld_null
 | d + 1, e => by
  unfold evE
  split
  ·rename_i hw
   refine vld_opE _ _ _ _ _ (fun ho => wf_const hw ho) fun p hp => ?_
   obtain ⟨a, _, rfl⟩ := List.mem_map.1 hp
   exact vld_evE row d a
  ·exact vld_null
theorem vld_num {p : Vl} (h : vldP p = true) (hk : p.1 = 1) : -1125899906842624 ≤ p.2.1 ∧ p.2.1 ≤ 1125899906842624 := by
 unfold vldP Va.vldV at h
 rw [if_neg (by omega), if_pos hk] at h
 simp only [Bool.and_eq_true, decide_eq_true_eq] at h
 exact h.1
theorem vld_len {p : Vl} (h : vldP p = true) : p.2.2.size ≤ 1000 := by
 have he : ∀ s : ByteArray, Va.emp s = true → s.size ≤ 1000 := by
  intro s hs
  unfold Va.emp at hs
  have h2 : s.toList = [] := by simpa using hs
  have h3 : s.data.toList = [] := by rw [← Lib.toList_data]; exact h2
  have h4 : s.size = s.data.toList.length := by rw [Array.length_toList]; rfl
  rw [h4, h3]; exact Nat.zero_le _
 unfold vldP Va.vldV at h
 split at h
 ·simp only [Bool.and_eq_true] at h; exact he _ h.2
 ·split at h
  ·simp only [Bool.and_eq_true] at h; exact he _ h.2
  ·split at h
   ·simp only [Bool.and_eq_true, decide_eq_true_eq] at h; omega
   ·split at h
    ·simp only [Bool.and_eq_true] at h; exact he _ h.2
    ·cases h
theorem pArg_any (g h k m c : Nat) (ad : Addr) (rv : Value) (y : Ex) (A3 : Option Addr) (c3 : Nat) (r : Vl) (W : World) (hk : k < m)
  (x6 : W.cell? ⟨g, 6, none⟩ = some (.slice (some ad) m c)) (xr : W.cell? ⟨h, 0, none⟩ = some rv) (hx : ExC W (ad.add (k * 7)) y (.slice A3 y.args.length c3)) (hrv : ∃ A n c, rv = .slice A n c)
  (hcall : ∀ W', Below W.heap.size W W' → Calls Tryz.prog 15 #[exV y (.slice A3 y.args.length c3), rv] W' fun e w' => e = .returned (valV r) ∧ Below W'.heap.size W' w') :
  Calls Tryz.prog 49 #[.int .i64 (k : Nat), .pointer (some ⟨g, 0, none⟩), .pointer (some ⟨h, 0, none⟩)] W fun e w' => e = .returned (valV r) ∧ Below W.heap.size W w' := by
 obtain ⟨Ar, nr, cr, rfl⟩ := hrv
 obtain ⟨d0, d1, d2, d3, d4, d5, d6⟩ := hx
 have hki : (k : Int) < m := by omega
 have l6 := World.block_lt_of_cell? W _ x6
 have lr := World.block_lt_of_cell? W _ xr
 have la := World.block_lt_of_cell? W _ d0
 obtain ⟨r1, r2, r3⟩ := r
 have HC := Lib.hid hcall
 have bX := bel_mk W (.cells #[.int .i64 0, .int .i64 0, .string ⟨#[]⟩] 23)
 have oX := own_onez W
 generalize hWX : W.alloc (.cells #[.int .i64 0, .int .i64 0, .string ⟨#[]⟩] 23) = X at *
 have B5 : Below W.heap.size W X.drew := bX.drew
 have HS := Lib.hid (show ∀ w', Below W.heap.size W w' → (Below W.heap.size W w' ∧ w'.cell? ⟨g, 6, none⟩ = some (.slice (some ad) m c) ∧ w'.cell? ⟨h, 0, none⟩ = some (.slice Ar nr cr) ∧
   w'.cell? (ad.add (k * 7)) = some (.int .i64 y.op) ∧ w'.cell? ⟨(ad.add (k * 7)).block, (ad.add (k * 7)).off + 1, none⟩ = some (.int .i64 y.n) ∧ w'.cell? ⟨(ad.add (k * 7)).block, (ad.add (k * 7)).off + 2, none⟩ = some (.int .i64 y.v.1) ∧
   w'.cell? ⟨(ad.add (k * 7)).block, (ad.add (k * 7)).off + 3, none⟩ = some (.int .i64 y.v.2.1) ∧ w'.cell? ⟨(ad.add (k * 7)).block, (ad.add (k * 7)).off + 4, none⟩ = some (.string y.v.2.2) ∧ w'.cell? ⟨(ad.add (k * 7)).block, (ad.add (k * 7)).off + 5, none⟩ = some (.string y.nm) ∧
   w'.cell? ⟨(ad.add (k * 7)).block, (ad.add (k * 7)).off + 6, none⟩ = some (.slice A3 y.args.length c3)) from fun w' B6 => by
  exact ⟨B6, (B6.cell (p := ⟨g, 6, none⟩) l6).trans x6, (B6.cell (p := ⟨h, 0, none⟩) lr).trans xr, (B6.cell (p := ad.add (k * 7)) la).trans d0,
   (B6.cell (p := ⟨(ad.add (k * 7)).block, (ad.add (k * 7)).off + 1, none⟩) la).trans d1, (B6.cell (p := ⟨(ad.add (k * 7)).block, (ad.add (k * 7)).off + 2, none⟩) la).trans d2,
   (B6.cell (p := ⟨(ad.add (k * 7)).block, (ad.add (k * 7)).off + 3, none⟩) la).trans d3, (B6.cell (p := ⟨(ad.add (k * 7)).block, (ad.add (k * 7)).off + 4, none⟩) la).trans d4,
   (B6.cell (p := ⟨(ad.add (k * 7)).block, (ad.add (k * 7)).off + 5, none⟩) la).trans d5, (B6.cell (p := ⟨(ad.add (k * 7)).block, (ad.add (k * 7)).off + 6, none⟩) la).trans d6⟩)
 have HB5 := Lib.hid B5
 have HO := Lib.hid (show Own X.drew W.heap.size 23 #[.int .i64 0, .int .i64 0, .string ⟨#[]⟩] from oX)
 clear x6 xr d0 d1 d2 d3 d4 d5 d6 l6 lr la hcall bX oX B5
 unfold exV valV at *
 dsimp only at HC ⊢
 go_enter Tryz.func49, Tryz.ntmps49
 go_wp2_with fail
 go_region_held3 (fun w' => Below W.heap.size W w' ∧ w'.cell? ⟨g, 6, none⟩ = some (.slice (some ad) m c) ∧ w'.cell? ⟨h, 0, none⟩ = some (.slice Ar nr cr) ∧
   w'.cell? (ad.add (k * 7)) = some (.int .i64 y.op) ∧ w'.cell? ⟨(ad.add (k * 7)).block, (ad.add (k * 7)).off + 1, none⟩ = some (.int .i64 y.n) ∧ w'.cell? ⟨(ad.add (k * 7)).block, (ad.add (k * 7)).off + 2, none⟩ = some (.int .i64 y.v.1) ∧
   w'.cell? ⟨(ad.add (k * 7)).block, (ad.add (k * 7)).off + 3, none⟩ = some (.int .i64 y.v.2.1) ∧ w'.cell? ⟨(ad.add (k * 7)).block, (ad.add (k * 7)).off + 4, none⟩ = some (.string y.v.2.2) ∧ w'.cell? ⟨(ad.add (k * 7)).block, (ad.add (k * 7)).off + 5, none⟩ = some (.string y.nm) ∧
   w'.cell? ⟨(ad.add (k * 7)).block, (ad.add (k * 7)).off + 6, none⟩ = some (.slice A3 y.args.length c3))
  (first | (exact HS.out _ HB5.out) | (exact HS.out _ hbW) | (exact HS.out _ (((hbW.sc W.heap.size 0 _).sc W.heap.size 1 _).sc W.heap.size 2 _)))
  ((go_at_call 15; refine (HC.out _ HB5.out).mono ?_; rintro e w1 ⟨rfl, hb⟩; have hbW := HB5.out.trans (hb.mono HB5.out.size); have o1 := HO.out.below hb HO.out.lt; have f0 := o1.cell 0; have f1 := o1.cell 1; have f2 := o1.cell 2; have j0 := o1.free 0; have j1 := o1.free 1; have j2 := o1.free 2))
 go_wp2
 (try simp only [Exit.inBlock, Exit.then]); refine bodyPost_ret_by (results_cell_row1 (by rfl) _ _ (W.heap.size) _ (by rfl) (load_val (((o1.store 0 _).store 1 _).store 2 _))) ?_ ?_; (focus rfl); refine ⟨rfl, ?_⟩
 exact (((hbW.sc W.heap.size 0 _).sc W.heap.size 1 _).sc W.heap.size 2 _)
theorem args_of (row : List Vl) (d : Nat) (es : List Ex) (A : Option Addr) (c : Nat) (rv : Value) (g h : Nat) (w : World) (L L2 : Nat)
  (x6 : w.cell? ⟨g, 6, none⟩ = some (.slice A es.length c)) (xr : w.cell? ⟨h, 0, none⟩ = some rv) (hE : RdE w L w.heap.size (d + 1) (.slice A es.length c) es) (hR : RdV w L2 w.heap.size rv row)
  (IH : ∀ (e : Ex) (A : Option Addr) (c : Nat) (w : World) (L L2 : Nat), RdE w L w.heap.size d (.slice A e.args.length c) e.args → RdV w L2 w.heap.size rv row →
   Calls Tryz.prog 15 #[exV e (.slice A e.args.length c), rv] w fun e' w' => e' = .returned (valV (evE row d e)) ∧ Below w.heap.size w w') :
  Args w (.pointer (some ⟨g, 0, none⟩)) (.pointer (some ⟨h, 0, none⟩)) (es.map (evE row d)) := by
 intro k W hk hW
 rw [List.length_map] at hk
 have hE2 := hE.step hW (Nat.le_refl _)
 have hR2 := hR.step hW (Nat.le_refl _)
 obtain ⟨A', c', hv, hl, hc⟩ := hE2
 injection hv with e1 e2 e3
 subst e1
 obtain ⟨ad, u, rfl, _, hab, hxc, hxr⟩ := hc k _ (List.getElem?_eq_getElem hk)
 obtain ⟨A3, c3, rfl, _⟩ := hxr.slice
 have hg : (es.map (evE row d)).getD k nullP = evE row d es[k] := by simp [List.getD, List.getElem?_map, List.getElem?_eq_getElem hk]
 rw [hg]
 refine pArg_any g h k es.length c ad rv es[k] A3 c3 _ W hk ((hW.cell (p := ⟨g, 6, none⟩) (World.block_lt_of_cell? w _ x6)).trans x6) ((hW.cell (p := ⟨h, 0, none⟩) (World.block_lt_of_cell? w _ xr)).trans xr) hxc ?_ ?_
 ·obtain ⟨Ar, cr, e, _⟩ := hR
  exact ⟨Ar, _, cr, e⟩
 ·intro W' hW'
  exact IH es[k] A3 c3 W' L L2 (hxr.step hW' (Nat.le_refl _)) (hR2.step hW' (Nat.le_refl _))
end Go.Proofs.YtdhemhmgenhmaaaGreat
