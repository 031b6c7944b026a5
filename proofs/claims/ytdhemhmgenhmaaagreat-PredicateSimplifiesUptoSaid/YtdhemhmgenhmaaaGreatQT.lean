import Derived.Test.YtdhemhmgenhmaaaGreatQP
import Derived.WalkKit
import Derived.WalkSpells
import Derived.WalkLawsBesides
import Derived.Deep.QuietTactic
import Derived.BigQuiet
import Derived.Handy
import Derived.Lib.Hide
set_option maxRecDepth 100000
set_option maxHeartbeats 25600000
set_option linter.unusedVariables false
set_option linter.unusedSimpArgs false
/-
  Arithmetic and comparisons on any two values, columns of a row, by the program. Conditions: numbers that are values.
-/
namespace Go.Proofs.YtdhemhmgenhmaaaGreat
open Go.RowKit
def eqlP (p q : Vl) : Int := Va.eqlV p.1 p.2.1 p.2.2 q.1 q.2.1 q.2.2
def lesP (p q : Vl) : Int := Va.lesV p.1 p.2.1 p.2.2 q.1 q.2.1 q.2.2
def cmqP (op : Int) (p q : Vl) : Int := if op = 7 then eqlP p q else if op = 8 then Va.vnot (eqlP p q) else if op = 9 then lesP p q else if op = 10 then Va.vnot (lesP q p) else if op = 11 then lesP q p else Va.vnot (lesP p q)
theorem pAri_any (op k x k2 y : Int) (s s2 : ByteArray) (w : World) (h1 : k = 1 → -1125899906842624 ≤ x ∧ x ≤ 1125899906842624) (h2 : k2 = 1 → -1125899906842624 ≤ y ∧ y ≤ 1125899906842624) (hop : op = 13 ∨ op = 14 ∨ op = 15 ∨ op = 16 ∨ op = 17) :
  Calls Tryz.prog 54 #[.int .i64 op, .agg #[.int .i64 k, .int .i64 x, .string s], .agg #[.int .i64 k2, .int .i64 y, .string s2]] w fun e w' => e = .returned (valV (ariP op (k, x, s) (k2, y, s2))) ∧ Below w.heap.size w w' := by
 by_cases hk : k = 1
 ·subst hk
  by_cases hk2 : k2 = 1
  ·subst hk2
   exact pAri_ints op x y s s2 w (h1 rfl).1 (h1 rfl).2 (h2 rfl).1 (h2 rfl).2 hop
  ·have e2 : (k2 != 1) = true := by simp [hk2]
   unfold ariP
   rw [if_neg (fun h => hk2 h.2)]
   have hN := fun W => eNull W
   unfold valV nullP at *
   dsimp only at hN ⊢
   have oB : Own (((w.alloc (.cells #[.int .i64 1, .int .i64 x, .string s] 23)).alloc (.cells #[.int .i64 k2, .int .i64 y, .string s2] 23)).alloc (.cells #[.int .i64 0, .int .i64 0, .string ⟨#[]⟩] 23)) (w.heap.size + 1 + 1) 23 #[.int .i64 0, .int .i64 0, .string ⟨#[]⟩] := own_three _ _
   clear hop h1 h2
   go_enter Tryz.func54, Tryz.ntmps54
   go_wp2_with fail
   with_reducible refine (hN _).mono ?_
   rintro e w1 ⟨rfl, hb1⟩
   have z1 := hb1.size
   simp only [World.size_alloc] at z1
   have o1 := oB.below hb1 (by simp only [World.size_alloc]; omega)
   have d0 := o1.cell 0; have e0 := o1.free 0; have d1 := o1.cell 1; have e1 := o1.free 1; have d2 := o1.cell 2; have e2 := o1.free 2; (try simp only [List.getElem?_toArray, List.getElem?_cons_zero, List.getElem?_cons_succ] at d0 d1 d2)
   go_wp2
   (try simp only [Exit.inBlock, Exit.then]); refine bodyPost_ret_by (results_cell_row1 (by rfl) _ _ (w.heap.size + 1 + 1) _ (by rfl) (load_val (((o1.store 0 _).store 1 _).store 2 _))) ?_ ?_; (focus rfl); refine ⟨rfl, ?_⟩
   (repeat' first | (with_reducible first | exact Below.refl _ _ | assumption | refine Below.alloc ?_ ?_ _ | refine Below.drew ?_ | refine Below.setCell ?_ ?_ _ | refine Below.trans ?_ (Below.mono (by assumption) ?_)) | go_size)
 ·have e1 : (k != 1) = true := by simp [hk]
  unfold ariP
  rw [if_neg (fun h => hk h.1)]
  have hN := fun W => eNull W
  unfold valV nullP at *
  dsimp only at hN ⊢
  have oB : Own (((w.alloc (.cells #[.int .i64 k, .int .i64 x, .string s] 23)).alloc (.cells #[.int .i64 k2, .int .i64 y, .string s2] 23)).alloc (.cells #[.int .i64 0, .int .i64 0, .string ⟨#[]⟩] 23)) (w.heap.size + 1 + 1) 23 #[.int .i64 0, .int .i64 0, .string ⟨#[]⟩] := own_three _ _
  clear hop h1 h2
  go_enter Tryz.func54, Tryz.ntmps54
  go_wp2_with fail
  with_reducible refine (hN _).mono ?_
  rintro e w1 ⟨rfl, hb1⟩
  have z1 := hb1.size
  simp only [World.size_alloc] at z1
  have o1 := oB.below hb1 (by simp only [World.size_alloc]; omega)
  have d0 := o1.cell 0; have e0 := o1.free 0; have d1 := o1.cell 1; have e1 := o1.free 1; have d2 := o1.cell 2; have e2 := o1.free 2; (try simp only [List.getElem?_toArray, List.getElem?_cons_zero, List.getElem?_cons_succ] at d0 d1 d2)
  go_wp2
  (try simp only [Exit.inBlock, Exit.then]); refine bodyPost_ret_by (results_cell_row1 (by rfl) _ _ (w.heap.size + 1 + 1) _ (by rfl) (load_val (((o1.store 0 _).store 1 _).store 2 _))) ?_ ?_; (focus rfl); refine ⟨rfl, ?_⟩
  (repeat' first | (with_reducible first | exact Below.refl _ _ | assumption | refine Below.alloc ?_ ?_ _ | refine Below.drew ?_ | refine Below.setCell ?_ ?_ _ | refine Below.trans ?_ (Below.mono (by assumption) ?_)) | go_size)
theorem pCmq_any (op k x k2 y : Int) (s s2 : ByteArray) (w : World) (hop : op = 7 ∨ op = 8 ∨ op = 9 ∨ op = 10 ∨ op = 11 ∨ op = 12) :
  Calls Tryz.prog 53 #[.int .i64 op, .agg #[.int .i64 k, .int .i64 x, .string s], .agg #[.int .i64 k2, .int .i64 y, .string s2]] w fun e w' => e = .returned (.int .i64 (cmqP op (k, x, s) (k2, y, s2))) ∧ Below w.heap.size w w' := by
 unfold cmqP eqlP lesP
 dsimp only
 have hE := fun W => Va.pEqual_any k x s k2 y s2 W
 have hL := fun W => Va.pLess_any k x s k2 y s2 W
 have hM := fun W => Va.pLess_any k2 y s2 k x s W
 unfold Va.vV at hE hL hM
 generalize Va.eqlV k x s k2 y s2 = E at *
 generalize Va.lesV k x s k2 y s2 = L at *
 generalize Va.lesV k2 y s2 k x s = M at *
 have hn := fun t W => Va.pNot_any t W
 rcases hop with rfl | rfl | rfl | rfl | rfl | rfl
 ·go_enter Tryz.func53, Tryz.ntmps53
  go_wp2_with fail
  with_reducible refine (hE _).mono ?_
  rintro e w1 ⟨rfl, hb⟩
  go_wp2
  go_ret
  refine ⟨rfl, ?_⟩
  (repeat' first | (with_reducible first | exact Below.refl _ _ | assumption | refine Below.alloc ?_ ?_ _ | refine Below.drew ?_ | refine Below.setCell ?_ ?_ _ | refine Below.trans ?_ (Below.mono (by assumption) ?_)) | go_size)
 ·go_enter Tryz.func53, Tryz.ntmps53
  go_wp2_with fail
  with_reducible refine (hE _).mono ?_
  rintro e w1 ⟨rfl, hb⟩
  go_wp2_with fail
  with_reducible refine (hn _ _).mono ?_
  rintro e w2 ⟨rfl, hb2⟩
  have hb3 := hb.trans (hb2.mono hb.size)
  go_wp2
  go_ret
  refine ⟨rfl, ?_⟩
  clear hb hb2
  (repeat' first | (with_reducible first | exact Below.refl _ _ | assumption | refine Below.alloc ?_ ?_ _ | refine Below.drew ?_ | refine Below.setCell ?_ ?_ _ | refine Below.trans ?_ (Below.mono (by assumption) ?_)) | go_size)
 ·go_enter Tryz.func53, Tryz.ntmps53
  go_wp2_with fail
  with_reducible refine (hL _).mono ?_
  rintro e w1 ⟨rfl, hb⟩
  go_wp2
  go_ret
  refine ⟨rfl, ?_⟩
  (repeat' first | (with_reducible first | exact Below.refl _ _ | assumption | refine Below.alloc ?_ ?_ _ | refine Below.drew ?_ | refine Below.setCell ?_ ?_ _ | refine Below.trans ?_ (Below.mono (by assumption) ?_)) | go_size)
 ·go_enter Tryz.func53, Tryz.ntmps53
  go_wp2_with fail
  with_reducible refine (hM _).mono ?_
  rintro e w1 ⟨rfl, hb⟩
  go_wp2_with fail
  with_reducible refine (hn _ _).mono ?_
  rintro e w2 ⟨rfl, hb2⟩
  have hb3 := hb.trans (hb2.mono hb.size)
  go_wp2
  go_ret
  refine ⟨rfl, ?_⟩
  clear hb hb2
  (repeat' first | (with_reducible first | exact Below.refl _ _ | assumption | refine Below.alloc ?_ ?_ _ | refine Below.drew ?_ | refine Below.setCell ?_ ?_ _ | refine Below.trans ?_ (Below.mono (by assumption) ?_)) | go_size)
 ·go_enter Tryz.func53, Tryz.ntmps53
  go_wp2_with fail
  with_reducible refine (hM _).mono ?_
  rintro e w1 ⟨rfl, hb⟩
  go_wp2
  go_ret
  refine ⟨rfl, ?_⟩
  (repeat' first | (with_reducible first | exact Below.refl _ _ | assumption | refine Below.alloc ?_ ?_ _ | refine Below.drew ?_ | refine Below.setCell ?_ ?_ _ | refine Below.trans ?_ (Below.mono (by assumption) ?_)) | go_size)
 ·go_enter Tryz.func53, Tryz.ntmps53
  go_wp2_with fail
  with_reducible refine (hL _).mono ?_
  rintro e w1 ⟨rfl, hb⟩
  go_wp2_with fail
  with_reducible refine (hn _ _).mono ?_
  rintro e w2 ⟨rfl, hb2⟩
  have hb3 := hb.trans (hb2.mono hb.size)
  go_wp2
  go_ret
  refine ⟨rfl, ?_⟩
  clear hb hb2
  (repeat' first | (with_reducible first | exact Below.refl _ _ | assumption | refine Below.alloc ?_ ?_ _ | refine Below.drew ?_ | refine Below.setCell ?_ ?_ _ | refine Below.trans ?_ (Below.mono (by assumption) ?_)) | go_size)
def colP (row : List Vl) (i : Int) : Vl := if 0 ≤ i then (match row[i.toNat]? with | some p => nrmP p | none => nullP) else nullP
theorem own_onez (w : World) : Own (w.alloc (.cells #[.int .i64 0, .int .i64 0, .string ⟨#[]⟩] 23)) w.heap.size 23 #[.int .i64 0, .int .i64 0, .string ⟨#[]⟩] := Own.new _ _ _
theorem pColumn_any (u : Value) (row : List Vl) (i : Int) (w : World) (L : Nat) (hu : RdV w L w.heap.size u row) :
  Calls Tryz.prog 50 #[u, .int .i64 i] w fun e w' => e = .returned (valV (colP row i)) ∧ Below w.heap.size w w' := by
 obtain ⟨A, c, rfl, hl1, hc1⟩ := hu
 have oB := own_onez w
 have hX := fun W => pIdx_any i row.length W
 have hN := fun W => eNull W
 by_cases hi : 0 ≤ i ∧ i < row.length
 ·obtain ⟨h0, h1⟩ := hi
  obtain ⟨k, rfl⟩ := Int.eq_ofNat_of_zero_le h0
  have hk : k < row.length := by omega
  rw [show idxB (k : Int) row.length = true by simp [idxB, h1]] at hX
  unfold colP
  rw [if_pos h0, Int.toNat_natCast, List.getElem?_eq_getElem hk]
  dsimp only
  obtain ⟨ad, rfl, _, hab, c0, c1, c2⟩ := hc1 k _ (List.getElem?_eq_getElem hk)
  generalize row[k] = q at *
  obtain ⟨kd, n, s⟩ := q
  dsimp only at c0 c1 c2
  have hV := fun W => Va.pValid_any kd n s W
  unfold Va.vV at hV
  have bX := bel_mk w (.cells #[.int .i64 0, .int .i64 0, .string ⟨#[]⟩] 23)
  have sX : w.heap.size < (w.alloc (.cells #[.int .i64 0, .int .i64 0, .string ⟨#[]⟩] 23)).heap.size := by simp
  clear hc1
  unfold nrmP vldP
  dsimp only
  cases hv : Va.vldV kd n s
  ·rw [hv] at hV
   rw [if_neg (by simp)]
   unfold valV nullP at *
   dsimp only at hN ⊢
   go_enter Tryz.func50, Tryz.ntmps50
   go_wp2_with fail
   with_reducible refine (hX _).mono ?_
   rintro e w1 ⟨rfl, hb1⟩
   have B1 := bX.trans (hb1.mono bX.size)
   have d0 := (B1.cell (p := ad.add (k * 3)) (by rw [add_block]; exact hab)).trans c0
   have d1 := (B1.cell (p := ⟨(ad.add (k * 3)).block, (ad.add (k * 3)).off + 1, none⟩) (by show (ad.add (k * 3)).block < _; rw [add_block]; exact hab)).trans c1
   have d2 := (B1.cell (p := ⟨(ad.add (k * 3)).block, (ad.add (k * 3)).off + 2, none⟩) (by show (ad.add (k * 3)).block < _; rw [add_block]; exact hab)).trans c2
   have o1 := oB.below hb1 sX
   have z1 := hb1.size
   clear bX hb1 oB
   go_wp2_with fail
   with_reducible refine (hV _).mono ?_
   rintro e w2 ⟨rfl, hb2⟩
   have o2 := o1.below hb2 o1.lt
   have B2 := B1.trans (hb2.mono B1.size)
   clear B1 hb2 o1
   go_wp2_with fail
   with_reducible refine (hN _).mono ?_
   rintro e w3 ⟨rfl, hb3⟩
   have o3 := o2.below hb3 o2.lt
   have B3 := B2.trans (hb3.mono B2.size)
   clear B2 hb3 o2
   have d0 := o3.cell 0; have e0 := o3.free 0; have d1 := o3.cell 1; have e1 := o3.free 1; have d2 := o3.cell 2; have e2 := o3.free 2; (try simp only [List.getElem?_toArray, List.getElem?_cons_zero, List.getElem?_cons_succ] at d0 d1 d2)
   go_wp2
   (try simp only [Exit.inBlock, Exit.then]); refine bodyPost_ret_by (results_cell_row1 (by rfl) _ _ (w.heap.size) _ (by rfl) (load_val (((o3.store 0 _).store 1 _).store 2 _))) ?_ ?_; (focus rfl); refine ⟨rfl, ?_⟩
   (repeat' first | (with_reducible first | exact Below.refl _ _ | assumption | refine Below.alloc ?_ ?_ _ | refine Below.drew ?_ | refine Below.setCell ?_ ?_ _ | refine Below.trans ?_ (Below.mono (by assumption) ?_)) | go_size)
  ·rw [hv] at hV
   rw [if_pos rfl]
   unfold valV
   dsimp only
   go_enter Tryz.func50, Tryz.ntmps50
   go_wp2_with fail
   with_reducible refine (hX _).mono ?_
   rintro e w1 ⟨rfl, hb1⟩
   have B1 := bX.trans (hb1.mono bX.size)
   have d0 := (B1.cell (p := ad.add (k * 3)) (by rw [add_block]; exact hab)).trans c0
   have d1 := (B1.cell (p := ⟨(ad.add (k * 3)).block, (ad.add (k * 3)).off + 1, none⟩) (by show (ad.add (k * 3)).block < _; rw [add_block]; exact hab)).trans c1
   have d2 := (B1.cell (p := ⟨(ad.add (k * 3)).block, (ad.add (k * 3)).off + 2, none⟩) (by show (ad.add (k * 3)).block < _; rw [add_block]; exact hab)).trans c2
   have o1 := oB.below hb1 sX
   have z1 := hb1.size
   clear bX hb1 oB
   go_wp2_with fail
   with_reducible refine (hV _).mono ?_
   rintro e w2 ⟨rfl, hb2⟩
   have o2 := o1.below hb2 o1.lt
   have B2 := B1.trans (hb2.mono B1.size)
   have f0 := (B2.cell (p := ad.add (k * 3)) (by rw [add_block]; exact hab)).trans c0
   have f1 := (B2.cell (p := ⟨(ad.add (k * 3)).block, (ad.add (k * 3)).off + 1, none⟩) (by show (ad.add (k * 3)).block < _; rw [add_block]; exact hab)).trans c1
   have f2 := (B2.cell (p := ⟨(ad.add (k * 3)).block, (ad.add (k * 3)).off + 2, none⟩) (by show (ad.add (k * 3)).block < _; rw [add_block]; exact hab)).trans c2
   clear B1 hb2 o1 d0 d1 d2 c0 c1 c2
   have d0a := o2.cell 0; have e0a := o2.free 0; have d1a := o2.cell 1; have e1a := o2.free 1; have d2a := o2.cell 2; have e2a := o2.free 2; (try simp only [List.getElem?_toArray, List.getElem?_cons_zero, List.getElem?_cons_succ] at d0a d1a d2a)
   go_wp2
   (try simp only [Exit.inBlock, Exit.then]); refine bodyPost_ret_by (results_cell_row1 (by rfl) _ _ (w.heap.size) _ (by rfl) (load_val (((o2.store 0 _).store 1 _).store 2 _))) ?_ ?_; (focus rfl); refine ⟨rfl, ?_⟩
   (repeat' first | (with_reducible first | exact Below.refl _ _ | assumption | refine Below.alloc ?_ ?_ _ | refine Below.drew ?_ | refine Below.setCell ?_ ?_ _ | refine Below.trans ?_ (Below.mono (by assumption) ?_)) | go_size)
 ·have hx : idxB i row.length = false := by
   unfold idxB
   by_cases h0 : 0 ≤ i
   ·rw [decide_eq_true h0, decide_eq_false (fun h => hi ⟨h0, h⟩)]; rfl
   ·rw [decide_eq_false h0]; rfl
  rw [hx] at hX
  have hP : colP row i = nullP := by
   unfold colP
   by_cases h0 : 0 ≤ i
   ·rw [if_pos h0, List.getElem?_eq_none (by omega)]
   ·rw [if_neg h0]
  rw [hP]
  unfold valV nullP at *
  dsimp only at hN ⊢
  clear hc1 hP hx hi
  go_enter Tryz.func50, Tryz.ntmps50
  go_wp2_with fail
  with_reducible refine (hX _).mono ?_
  rintro e w1 ⟨rfl, hb1⟩
  have o2 := oB.below hb1 oB.lt
  have B2 := (bel_mk w _).trans (hb1.mono (bel_mk w _).size)
  clear hb1 oB
  go_wp2_with fail
  with_reducible refine (hN _).mono ?_
  rintro e w3 ⟨rfl, hb3⟩
  have o3 := o2.below hb3 o2.lt
  have B3 := B2.trans (hb3.mono B2.size)
  clear B2 hb3 o2
  have d0 := o3.cell 0; have e0 := o3.free 0; have d1 := o3.cell 1; have e1 := o3.free 1; have d2 := o3.cell 2; have e2 := o3.free 2; (try simp only [List.getElem?_toArray, List.getElem?_cons_zero, List.getElem?_cons_succ] at d0 d1 d2)
  go_wp2
  (try simp only [Exit.inBlock, Exit.then]); refine bodyPost_ret_by (results_cell_row1 (by rfl) _ _ (w.heap.size) _ (by rfl) (load_val (((o3.store 0 _).store 1 _).store 2 _))) ?_ ?_; (focus rfl); refine ⟨rfl, ?_⟩
  (repeat' first | (with_reducible first | exact Below.refl _ _ | assumption | refine Below.alloc ?_ ?_ _ | refine Below.drew ?_ | refine Below.setCell ?_ ?_ _ | refine Below.trans ?_ (Below.mono (by assumption) ?_)) | go_size)
def Args (w : World) (P Q : Value) (l : List Vl) : Prop := ∀ (i : Nat) (W : World), i < l.length → Below w.heap.size w W →
 Calls Tryz.prog 49 #[.int .i64 (i : Nat), P, Q] W fun e w' => e = .returned (valV (l.getD i nullP)) ∧ Below W.heap.size W w'
theorem Args.later {w w' : World} {P Q : Value} {l : List Vl} (h : Args w P Q l) (hb : Below w.heap.size w w') : Args w' P Q l := fun i W hi hW => h i W hi (hb.trans (hW.mono hb.size))
def fstP : List Vl → Vl
 | [] => nullP
 | p :: l => if p.1 = 0 then fstP l else p
theorem fstP_drop (l : List Vl) (k : Nat) (p : Vl) (h : l[k]? = some p) : fstP (l.drop k) = if p.1 = 0 then fstP (l.drop (k + 1)) else p := by
 obtain ⟨h1, rfl⟩ := List.getElem?_eq_some_iff.1 h
 rw [List.drop_eq_getElem_cons h1]
 rfl
theorem pFirst_any (l : List Vl) (p q : Addr) (w : World) (hA : Args w (.pointer (some p)) (.pointer (some q)) l) (hl : l.length ≤ 1099511627776) :
  Calls Tryz.prog 61 #[.int .i64 (l.length : Nat), .func (.func 49) #[] #[.pointer (some p), .pointer (some q)]] w fun e w' => e = .returned (valV (fstP l)) ∧ Below w.heap.size w w' := by
 have HA := Lib.hid hA
 have HB0 := Lib.hid (bel_mk w (.cells #[.int .i64 0, .int .i64 0, .string ⟨#[]⟩] 23))
 have HO0 := Lib.hid (own_onez w)
 generalize hr : fstP l = r at *
 obtain ⟨r1, r2, r3⟩ := r
 have HR0 := Lib.hid hr
 unfold valV
 dsimp only
 clear hA hr
 go_enter Tryz.func61, Tryz.ntmps61
 go_wp2_with fail
 go_loopw [5, 6, 8] (fun _ _ i wr => ∃ k : Nat, k ≤ l.length ∧ i = .int .i64 k ∧ Hid (fstP (l.drop k) = (r1, r2, r3)) ∧ Hid (Own wr w.heap.size 23 #[.int .i64 0, .int .i64 0, .string ⟨#[]⟩]) ∧ Below w.heap.size w wr) (fun _ _ i _ => l.length - (intOf i).toNat)
 case atStart => exact ⟨0, Nat.zero_le _, rfl, HR0, HO0, HB0.out⟩
 case round =>
  obtain ⟨k, hk, rfl, HR, HO, hbr⟩ := hrel
  have hbz := hbr.size
  clear HR0 HO0 HB0
  by_cases hlt : k < l.length
  ·have hki : (k : Int) < l.length := by omega
   have hcall := HA.out k wr hlt hbr
   have hdr := fstP_drop l k _ (List.getElem?_eq_getElem hlt)
   rw [HR.out] at hdr
   rw [show l.getD k nullP = l[k] by simp [List.getD, List.getElem?_eq_getElem hlt]] at hcall
   generalize l[k] = p1 at *
   obtain ⟨kd, n, s⟩ := p1
   dsimp only at hdr
   unfold valV at hcall
   have HC := Lib.hid hcall
   have HD := Lib.hid hdr
   clear hcall hdr
   go_wp2_with fail
   with_reducible refine HC.out.mono ?_
   rintro e w1 ⟨rfl, hb1⟩
   have o1 := HO.out.below hb1 HO.out.lt
   have B1 := hbr.trans (hb1.mono hbz)
   have o2 := o1.alloc (.cells #[.int .i64 kd, .int .i64 n, .string s] 23)
   have bY := bel_mk w1 (.cells #[.int .i64 kd, .int .i64 n, .string s] 23)
   have B2 := B1.trans (bY.mono B1.size)
   have v1 := Own.new w1 23 #[.int .i64 kd, .int .i64 n, .string s]
   have hIN := fun W => pIsNull_any kd n s W
   have HV1 := Lib.hid v1
   have HO2 := Lib.hid o2
   have HB2 := Lib.hid B2
   clear hb1 o1 B1 o2 bY B2 v1 HC HO
   by_cases k0 : kd = 0
   ·subst k0
    have HF := Lib.hid (show fstP (l.drop (k + 1)) = (r1, r2, r3) by have := HD.out; simpa using this.symm)
    have hIN2 : ∀ W, Calls Tryz.prog 59 #[.agg #[.int .i64 0, .int .i64 n, .string s]] W fun e w' => e = .returned (.bool true) ∧ Below W.heap.size W w' := hIN
    have HI := Lib.hid hIN2
    clear hIN hIN2 HD HR
    go_wp2_with fail
    with_reducible refine (HI.out _).mono ?_
    rintro e w2 ⟨rfl, hb2⟩
    have o3 := Lib.hid (HO2.out.below hb2 HO2.out.lt)
    have B3 := Lib.hid (HB2.out.trans (hb2.mono HB2.out.size))
    clear hb2
    go_wp2
    go_round
    case rel => exact ⟨k + 1, by omega, by go_num, HF, o3, B3.out⟩
    case measure => simp [intOf]; omega
   ·have HF := Lib.hid (show ((kd, n, s) : Vl) = (r1, r2, r3) by have := HD.out; rw [if_neg k0] at this; exact this.symm)
    have hIN2 : ∀ W, Calls Tryz.prog 59 #[.agg #[.int .i64 kd, .int .i64 n, .string s]] W fun e w' => e = .returned (.bool false) ∧ Below W.heap.size W w' := by rw [show (kd == 0) = false by simp [k0]] at hIN; exact hIN
    have HI := Lib.hid hIN2
    clear hIN hIN2 HD HR
    go_wp2_with fail
    with_reducible refine (HI.out _).mono ?_
    rintro e w2 ⟨rfl, hb2⟩
    have o3 := HO2.out.below hb2 HO2.out.lt
    have v3 := HV1.out.below hb2 HV1.out.lt
    have B3 := HB2.out.trans (hb2.mono HB2.out.size)
    have hf := HF.out
    injection hf with h1 h2
    injection h2 with h2 h3
    subst h1 h2 h3
    have d0 := o3.cell 0; have e0 := o3.free 0; have d1 := o3.cell 1; have e1 := o3.free 1; have d2 := o3.cell 2; have e2 := o3.free 2; (try simp only [List.getElem?_toArray, List.getElem?_cons_zero, List.getElem?_cons_succ] at d0 d1 d2)
    have d0a := v3.cell 0; have e0a := v3.free 0; have d1a := v3.cell 1; have e1a := v3.free 1; have d2a := v3.cell 2; have e2a := v3.free 2; (try simp only [List.getElem?_toArray, List.getElem?_cons_zero, List.getElem?_cons_succ] at d0a d1a d2a)
    clear hb2
    go_wp2
    (try simp only [Exit.inBlock, Exit.then]); refine bodyPost_ret_by (results_cell_row1 (by rfl) _ _ (w.heap.size) _ (by rfl) (load_val (((o3.store 0 _).store 1 _).store 2 _))) ?_ ?_; (focus rfl); refine ⟨rfl, ?_⟩
    (repeat' first | (with_reducible first | exact Below.refl _ _ | assumption | refine Below.alloc ?_ ?_ _ | refine Below.drew ?_ | refine Below.setCell ?_ ?_ _ | refine Below.trans ?_ (Below.mono (by assumption) ?_)) | go_size)
  ·have hki : ¬ (k : Int) < l.length := by omega
   have HF := Lib.hid (show nullP = (r1, r2, r3) by have := HR.out; rw [List.drop_eq_nil_of_le (by omega)] at this; exact this)
   have hN := fun W => eNull W
   rw [HF.out] at hN
   unfold valV at hN
   dsimp only at hN
   have HN := Lib.hid hN
   clear hN HF HR
   go_wp2_with fail
   with_reducible refine (HN.out _).mono ?_
   rintro e w1 ⟨rfl, hb1⟩
   have o3 := HO.out.below hb1 HO.out.lt
   have B3 := hbr.trans (hb1.mono hbz)
   have d0 := o3.cell 0; have e0 := o3.free 0; have d1 := o3.cell 1; have e1 := o3.free 1; have d2 := o3.cell 2; have e2 := o3.free 2; (try simp only [List.getElem?_toArray, List.getElem?_cons_zero, List.getElem?_cons_succ] at d0 d1 d2)
   clear hb1
   go_wp2
   (try simp only [Exit.inBlock, Exit.then]); refine bodyPost_ret_by (results_cell_row1 (by rfl) _ _ (w.heap.size) _ (by rfl) (load_val (((o3.store 0 _).store 1 _).store 2 _))) ?_ ?_; (focus rfl); refine ⟨rfl, ?_⟩
   (repeat' first | (with_reducible first | exact Below.refl _ _ | assumption | refine Below.alloc ?_ ?_ _ | refine Below.drew ?_ | refine Below.setCell ?_ ?_ _ | refine Below.trans ?_ (Below.mono (by assumption) ?_)) | go_size)
end Go.Proofs.YtdhemhmgenhmaaaGreat
