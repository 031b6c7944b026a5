import Derived.Test.YtdhemhmgenhmaaaGreatMG
import Derived.Test.YtdhemhmgenhmaaaGreatMW
import Derived.Test.YtdhemhmgenhmaaaGreatQM
import Derived.WalkKit
import Derived.WalkSpells
import Derived.WalkLawsBesides
import Derived.Deep.QuietTactic
import Derived.BigQuiet
import Derived.Handy
import Derived.Lib.Hide
set_option maxRecDepth 100000
set_option maxHeartbeats 25600000
set_option linter.unusedVariables false
set_option linter.unusedSimpArgs false
/-
  What the functions of Eval answer: values of constants, columns, texts, numbers, comparisons. Conditions: numbers that are values.
-/
namespace Go.Proofs.YtdhemhmgenhmaaaGreat
open Go.RowKit
def vldP (p : Vl) : Bool := Va.vldV p.1 p.2.1 p.2.2
def nullP : Vl := (0, 0, ⟨#[]⟩)
def nrmP (p : Vl) : Vl := if vldP p then p else nullP
def intP (n : Int) : Vl := nrmP (1, n, ⟨#[]⟩)
def txtP (s : ByteArray) : Vl := nrmP (2, 0, s)
def booP (b : Bool) : Vl := (3, if b then 1 else 0, ⟨#[]⟩)
def ofP (t : Int) : Vl := if t = 2 then booP true else if t = 0 then booP false else nullP
def truP (p : Vl) : Int := Va.truV p.1 p.2.1 p.2.2
theorem nrm_eq (k n : Int) (s : ByteArray) : Va.nrm k n s = valV (nrmP (k, n, s)) := by
 unfold Va.nrm nrmP vldP
 dsimp only
 split <;> rfl
theorem of_eq (t : Int) : Va.ofT t = valV (ofP t) := by
 unfold Va.ofT ofP
 split
 ·rfl
 ·split <;> rfl
theorem eNull (w : World) : Calls Tryz.prog 14 #[] w fun e w' => e = .returned (valV nullP) ∧ Below w.heap.size w w' := Va.pNull_any w
theorem eInt (n : Int) (w : World) : Calls Tryz.prog 55 #[.int .i64 n] w fun e w' => e = .returned (valV (intP n)) ∧ Below w.heap.size w w' := by
 have h := Va.pInt_any n w
 rwa [nrm_eq] at h
theorem eText (s : ByteArray) (w : World) : Calls Tryz.prog 102 #[.string s] w fun e w' => e = .returned (valV (txtP s)) ∧ Below w.heap.size w w' := by
 have h := Va.pText_any s w
 rwa [nrm_eq] at h
theorem eBool (b : Bool) (w : World) : Calls Tryz.prog 58 #[.bool b] w fun e w' => e = .returned (valV (booP b)) ∧ Below w.heap.size w w' := Va.pBool_any b w
theorem eOf (t : Int) (w : World) : Calls Tryz.prog 51 #[.int .i64 t] w fun e w' => e = .returned (valV (ofP t)) ∧ Below w.heap.size w w' := by
 have h := Va.pOf_any t w
 rwa [of_eq] at h
theorem eTruth (p : Vl) (w : World) : Calls Tryz.prog 60 #[valV p] w fun e w' => e = .returned (.int .i64 (truP p)) ∧ Below w.heap.size w w' := Va.pTruth_any p.1 p.2.1 p.2.2 w
def lenP (p : Vl) : Vl := if p.1 = 2 then intP p.2.2.size else nullP
def catP (p q : Vl) : Vl := if p.1 = 2 ∧ q.1 = 2 then txtP (p.2.2 ++ q.2.2) else nullP
theorem pIsNull_any (k n : Int) (s : ByteArray) (w : World) : Calls Tryz.prog 59 #[.agg #[.int .i64 k, .int .i64 n, .string s]] w fun e w' => e = .returned (.bool (k == 0)) ∧ Below w.heap.size w w' := by
 go_enter Tryz.func59, Tryz.ntmps59
 go_wp2
 go_ret
 refine ⟨rfl, ?_⟩
 (repeat' first | (with_reducible first | exact Below.refl _ _ | assumption | refine Below.alloc ?_ ?_ _ | refine Below.drew ?_ | refine Below.setCell ?_ ?_ _ | refine Below.trans ?_ (Below.mono (by assumption) ?_)) | go_size)
theorem pLength_any (k n : Int) (s : ByteArray) (w : World) : Calls Tryz.prog 57 #[.agg #[.int .i64 k, .int .i64 n, .string s]] w fun e w' => e = .returned (valV (lenP (k, n, s))) ∧ Below w.heap.size w w' := by
 unfold lenP
 dsimp only
 have hI := fun W => eInt (s.size : Nat) W
 have hN := fun W => eNull W
 have oB : Own ((w.alloc (.cells #[.int .i64 k, .int .i64 n, .string s] 23)).alloc (.cells #[.int .i64 0, .int .i64 0, .string ⟨#[]⟩] 23)) (w.heap.size + 1) 23 #[.int .i64 0, .int .i64 0, .string ⟨#[]⟩] := Va.own_two _
 by_cases hk : k = 2
 ·subst hk
  rw [if_pos rfl]
  generalize intP (s.size : Nat) = r at *
  obtain ⟨r1, r2, r3⟩ := r
  unfold valV at *
  dsimp only at hI ⊢
  go_enter Tryz.func57, Tryz.ntmps57
  go_wp2_with fail
  with_reducible refine (hI _).mono ?_
  rintro e w1 ⟨rfl, hb1⟩
  have z1 := hb1.size
  simp only [World.size_alloc] at z1
  have o1 := oB.below hb1 (by simp only [World.size_alloc]; omega)
  have d0 := o1.cell 0; have e0 := o1.free 0; have d1 := o1.cell 1; have e1 := o1.free 1; have d2 := o1.cell 2; have e2 := o1.free 2; (try simp only [List.getElem?_toArray, List.getElem?_cons_zero, List.getElem?_cons_succ] at d0 d1 d2)
  go_wp2
  (try simp only [Exit.inBlock, Exit.then]); refine bodyPost_ret_by (results_cell_row1 (by rfl) _ _ (w.heap.size + 1) _ (by rfl) (load_val (((o1.store 0 _).store 1 _).store 2 _))) ?_ ?_; (focus rfl); refine ⟨rfl, ?_⟩
  (repeat' first | (with_reducible first | exact Below.refl _ _ | assumption | refine Below.alloc ?_ ?_ _ | refine Below.drew ?_ | refine Below.setCell ?_ ?_ _ | refine Below.trans ?_ (Below.mono (by assumption) ?_)) | go_size)
 ·rw [if_neg hk]
  unfold valV nullP at *
  dsimp only at hN ⊢
  have e1 : (k != 2) = true := by simp [hk]
  go_enter Tryz.func57, Tryz.ntmps57
  go_wp2_with fail
  with_reducible refine (hN _).mono ?_
  rintro e w1 ⟨rfl, hb1⟩
  have z1 := hb1.size
  simp only [World.size_alloc] at z1
  have o1 := oB.below hb1 (by simp only [World.size_alloc]; omega)
  have d0 := o1.cell 0; have e0 := o1.free 0; have d1 := o1.cell 1; have e1 := o1.free 1; have d2 := o1.cell 2; have e2 := o1.free 2; (try simp only [List.getElem?_toArray, List.getElem?_cons_zero, List.getElem?_cons_succ] at d0 d1 d2)
  go_wp2
  (try simp only [Exit.inBlock, Exit.then]); refine bodyPost_ret_by (results_cell_row1 (by rfl) _ _ (w.heap.size + 1) _ (by rfl) (load_val (((o1.store 0 _).store 1 _).store 2 _))) ?_ ?_; (focus rfl); refine ⟨rfl, ?_⟩
  (repeat' first | (with_reducible first | exact Below.refl _ _ | assumption | refine Below.alloc ?_ ?_ _ | refine Below.drew ?_ | refine Below.setCell ?_ ?_ _ | refine Below.trans ?_ (Below.mono (by assumption) ?_)) | go_size)
theorem own_three {w : World} {t : TypeId} {cs : Array Value} (o o2 : Obj) : Own (((w.alloc o).alloc o2).alloc (.cells cs t)) (w.heap.size + 1 + 1) t cs := by
 have h := Own.new ((w.alloc o).alloc o2) t cs
 rwa [World.size_alloc, World.size_alloc] at h
theorem pConcat_any (k n : Int) (s : ByteArray) (k2 n2 : Int) (s2 : ByteArray) (w : World) (hs1 : s.size ≤ 1000) (hs2 : s2.size ≤ 1000) : Calls Tryz.prog 56 #[.agg #[.int .i64 k, .int .i64 n, .string s], .agg #[.int .i64 k2, .int .i64 n2, .string s2]] w fun e w' => e = .returned (valV (catP (k, n, s) (k2, n2, s2))) ∧ Below w.heap.size w w' := by
 unfold catP
 dsimp only
 have hI := fun W => eText (s ++ s2) W
 have hN := fun W => eNull W
 have oB : Own (((w.alloc (.cells #[.int .i64 k, .int .i64 n, .string s] 23)).alloc (.cells #[.int .i64 k2, .int .i64 n2, .string s2] 23)).alloc (.cells #[.int .i64 0, .int .i64 0, .string ⟨#[]⟩] 23)) (w.heap.size + 1 + 1) 23 #[.int .i64 0, .int .i64 0, .string ⟨#[]⟩] := own_three _ _
 by_cases hk : k = 2
 ·subst hk
  by_cases hk2 : k2 = 2
  ·subst hk2
   rw [if_pos ⟨rfl, rfl⟩]
   generalize txtP (s ++ s2) = r at *
   obtain ⟨r1, r2, r3⟩ := r
   unfold valV at *
   dsimp only at hI ⊢
   go_enter Tryz.func56, Tryz.ntmps56
   go_wp2_with fail
   with_reducible refine (hI _).mono ?_
   rintro e w1 ⟨rfl, hb1⟩
   have z1 := hb1.size
   simp only [World.size_alloc] at z1
   have o1 := oB.below hb1 (by simp only [World.size_alloc]; omega)
   have d0 := o1.cell 0; have e0 := o1.free 0; have d1 := o1.cell 1; have e1 := o1.free 1; have d2 := o1.cell 2; have e2 := o1.free 2; (try simp only [List.getElem?_toArray, List.getElem?_cons_zero, List.getElem?_cons_succ] at d0 d1 d2)
   go_wp2
   (try simp only [Exit.inBlock, Exit.then]); refine bodyPost_ret_by (results_cell_row1 (by rfl) _ _ (w.heap.size + 1 + 1) _ (by rfl) (load_val (((o1.store 0 _).store 1 _).store 2 _))) ?_ ?_; (focus rfl); refine ⟨rfl, ?_⟩
   (repeat' first | (with_reducible first | exact Below.refl _ _ | assumption | refine Below.alloc ?_ ?_ _ | refine Below.drew ?_ | refine Below.setCell ?_ ?_ _ | refine Below.trans ?_ (Below.mono (by assumption) ?_)) | go_size)
  ·have e2 : (k2 != 2) = true := by simp [hk2]
   rw [if_neg (fun h => hk2 h.2)]
   unfold valV nullP at *
   dsimp only at hN ⊢
   go_enter Tryz.func56, Tryz.ntmps56
   go_wp2_with fail
   with_reducible refine (hN _).mono ?_
   rintro e w1 ⟨rfl, hb1⟩
   have z1 := hb1.size
   simp only [World.size_alloc] at z1
   have o1 := oB.below hb1 (by simp only [World.size_alloc]; omega)
   have d0 := o1.cell 0; have e0 := o1.free 0; have d1 := o1.cell 1; have e1 := o1.free 1; have d2 := o1.cell 2; have e2 := o1.free 2; (try simp only [List.getElem?_toArray, List.getElem?_cons_zero, List.getElem?_cons_succ] at d0 d1 d2)
   go_wp2
   (try simp only [Exit.inBlock, Exit.then]); refine bodyPost_ret_by (results_cell_row1 (by rfl) _ _ (w.heap.size + 1 + 1) _ (by rfl) (load_val (((o1.store 0 _).store 1 _).store 2 _))) ?_ ?_; (focus rfl); refine ⟨rfl, ?_⟩
   (repeat' first | (with_reducible first | exact Below.refl _ _ | assumption | refine Below.alloc ?_ ?_ _ | refine Below.drew ?_ | refine Below.setCell ?_ ?_ _ | refine Below.trans ?_ (Below.mono (by assumption) ?_)) | go_size)
 ·have e1 : (k != 2) = true := by simp [hk]
  rw [if_neg (fun h => hk h.1)]
  unfold valV nullP at *
  dsimp only at hN ⊢
  go_enter Tryz.func56, Tryz.ntmps56
  go_wp2_with fail
  with_reducible refine (hN _).mono ?_
  rintro e w1 ⟨rfl, hb1⟩
  have z1 := hb1.size
  simp only [World.size_alloc] at z1
  have o1 := oB.below hb1 (by simp only [World.size_alloc]; omega)
  have d0 := o1.cell 0; have e0 := o1.free 0; have d1 := o1.cell 1; have e1 := o1.free 1; have d2 := o1.cell 2; have e2 := o1.free 2; (try simp only [List.getElem?_toArray, List.getElem?_cons_zero, List.getElem?_cons_succ] at d0 d1 d2)
  go_wp2
  (try simp only [Exit.inBlock, Exit.then]); refine bodyPost_ret_by (results_cell_row1 (by rfl) _ _ (w.heap.size + 1 + 1) _ (by rfl) (load_val (((o1.store 0 _).store 1 _).store 2 _))) ?_ ?_; (focus rfl); refine ⟨rfl, ?_⟩
  (repeat' first | (with_reducible first | exact Below.refl _ _ | assumption | refine Below.alloc ?_ ?_ _ | refine Below.drew ?_ | refine Below.setCell ?_ ?_ _ | refine Below.trans ?_ (Below.mono (by assumption) ?_)) | go_size)
theorem mul_range {x y : Int} (h : x = 0 ∨ max y (-y) ≤ 1125899906842624 / max x (-x)) : -1125899906842624 ≤ x * y ∧ x * y ≤ 1125899906842624 := by
 by_cases x0 : x = 0
 ·subst x0; simp
 ·have hp : 0 < max x (-x) := by omega
  have h1 : max y (-y) * max x (-x) ≤ 1125899906842624 := (Int.le_ediv_iff_mul_le hp).1 (h.resolve_left x0)
  rcases Int.le_total 0 x with hx | hx <;> rcases Int.le_total 0 y with hy | hy
  ·rw [show max x (-x) = x by omega, show max y (-y) = y by omega] at h1
   have := Int.mul_nonneg hx hy
   rw [Int.mul_comm] at h1
   omega
  ·rw [show max x (-x) = x by omega, show max y (-y) = -y by omega, Int.neg_mul, Int.mul_comm] at h1
   have := Int.mul_nonneg hx (show 0 ≤ -y by omega)
   rw [Int.mul_neg] at this
   omega
  ·rw [show max x (-x) = -x by omega, show max y (-y) = y by omega, Int.mul_neg, Int.mul_comm] at h1
   have := Int.mul_nonneg (show 0 ≤ -x by omega) hy
   rw [Int.neg_mul] at this
   omega
  ·rw [show max x (-x) = -x by omega, show max y (-y) = -y by omega, Int.neg_mul_neg, Int.mul_comm] at h1
   have := Int.mul_nonneg (show 0 ≤ -x by omega) (show 0 ≤ -y by omega)
   rw [Int.neg_mul_neg] at this
   omega
def mulP (x y : Int) : Vl := if x ≠ 0 ∧ 1125899906842624 / max x (-x) < max y (-y) then nullP else intP (x * y)
theorem wrap_mul {x y : Int} (h : x = 0 ∨ max y (-y) ≤ 1125899906842624 / max x (-x)) : wrap64 (x * y) = x * y := by
 have := mul_range h
 unfold wrap64; omega
theorem pProd_any (x y : Int) (w : World) (hx1 : -1125899906842624 ≤ x) (hx2 : x ≤ 1125899906842624) (hy1 : -1125899906842624 ≤ y) (hy2 : y ≤ 1125899906842624) :
  Calls Tryz.prog 100 #[.int .i64 x, .int .i64 y] w fun e w' => e = .returned (valV (mulP x y)) ∧ Below w.heap.size w w' := by
 have hI := fun W => eInt (wrap64 (x * y)) W
 have hN := fun W => eNull W
 have oB : Own (w.alloc (.cells #[.int .i64 0, .int .i64 0, .string ⟨#[]⟩] 23)) w.heap.size 23 #[.int .i64 0, .int .i64 0, .string ⟨#[]⟩] := Own.new _ _ _
 unfold mulP
 by_cases x0 : x = 0
 ·subst x0
  rw [if_neg (by simp)]
  simp only [Int.zero_mul] at hI ⊢
  have hI : ∀ W, Calls Tryz.prog 55 #[.int .i64 0] W fun e w' => e = .returned (valV (intP 0)) ∧ Below W.heap.size W w' := fun W => eInt 0 W
  generalize intP 0 = r at *
  obtain ⟨r1, r2, r3⟩ := r
  unfold valV at *
  dsimp only at hI ⊢
  go_enter Tryz.func100, Tryz.ntmps100
  go_wp2_with fail
  with_reducible refine (hI _).mono ?_
  rintro e w1 ⟨rfl, hb1⟩
  have z1 := hb1.size
  simp only [World.size_alloc] at z1
  have o1 := oB.below hb1 (by simp only [World.size_alloc]; omega)
  have d0 := o1.cell 0; have e0 := o1.free 0; have d1 := o1.cell 1; have e1 := o1.free 1; have d2 := o1.cell 2; have e2 := o1.free 2; (try simp only [List.getElem?_toArray, List.getElem?_cons_zero, List.getElem?_cons_succ] at d0 d1 d2)
  go_wp2
  (try simp only [Exit.inBlock, Exit.then]); refine bodyPost_ret_by (results_cell_row1 (by rfl) _ _ (w.heap.size) _ (by rfl) (load_val (((o1.store 0 _).store 1 _).store 2 _))) ?_ ?_; (focus rfl); refine ⟨rfl, ?_⟩
  (repeat' first | (with_reducible first | exact Below.refl _ _ | assumption | refine Below.alloc ?_ ?_ _ | refine Below.drew ?_ | refine Below.setCell ?_ ?_ _ | refine Below.trans ?_ (Below.mono (by assumption) ?_)) | go_size)
 have e1 : (x != 0) = true := by simp [x0]
 have e0 : (x == 0) = false := by simp [x0]
 by_cases hc : 1125899906842624 / max x (-x) < max y (-y)
 ·rw [if_pos ⟨x0, hc⟩]
  unfold valV nullP at *
  dsimp only at hN ⊢
  go_enter Tryz.func100, Tryz.ntmps100
  go_wp2_with fail
  with_reducible refine (hN _).mono ?_
  rintro e w1 ⟨rfl, hb1⟩
  have z1 := hb1.size
  simp only [World.size_alloc] at z1
  have o1 := oB.below hb1 (by simp only [World.size_alloc]; omega)
  have d0 := o1.cell 0; have e0 := o1.free 0; have d1 := o1.cell 1; have e1 := o1.free 1; have d2 := o1.cell 2; have e2 := o1.free 2; (try simp only [List.getElem?_toArray, List.getElem?_cons_zero, List.getElem?_cons_succ] at d0 d1 d2)
  go_wp2
  (try simp only [Exit.inBlock, Exit.then]); refine bodyPost_ret_by (results_cell_row1 (by rfl) _ _ (w.heap.size) _ (by rfl) (load_val (((o1.store 0 _).store 1 _).store 2 _))) ?_ ?_; (focus rfl); refine ⟨rfl, ?_⟩
  (repeat' first | (with_reducible first | exact Below.refl _ _ | assumption | refine Below.alloc ?_ ?_ _ | refine Below.drew ?_ | refine Below.setCell ?_ ?_ _ | refine Below.trans ?_ (Below.mono (by assumption) ?_)) | go_size)
 ·rw [if_neg (fun h => hc h.2)]
  rw [wrap_mul (.inr (by omega))] at hI
  have hw := wrap_mul (x := x) (y := y) (.inr (by omega))
  generalize intP (x * y) = r at *
  obtain ⟨r1, r2, r3⟩ := r
  unfold valV at *
  dsimp only at hI ⊢
  go_enter Tryz.func100, Tryz.ntmps100
  go_wp2_with fail
  with_reducible refine (hI _).mono ?_
  rintro e w1 ⟨rfl, hb1⟩
  have z1 := hb1.size
  simp only [World.size_alloc] at z1
  have o1 := oB.below hb1 (by simp only [World.size_alloc]; omega)
  have d0 := o1.cell 0; have e0 := o1.free 0; have d1 := o1.cell 1; have e1 := o1.free 1; have d2 := o1.cell 2; have e2 := o1.free 2; (try simp only [List.getElem?_toArray, List.getElem?_cons_zero, List.getElem?_cons_succ] at d0 d1 d2)
  go_wp2
  (try simp only [Exit.inBlock, Exit.then]); refine bodyPost_ret_by (results_cell_row1 (by rfl) _ _ (w.heap.size) _ (by rfl) (load_val (((o1.store 0 _).store 1 _).store 2 _))) ?_ ?_; (focus rfl); refine ⟨rfl, ?_⟩
  (repeat' first | (with_reducible first | exact Below.refl _ _ | assumption | refine Below.alloc ?_ ?_ _ | refine Below.drew ?_ | refine Below.setCell ?_ ?_ _ | refine Below.trans ?_ (Below.mono (by assumption) ?_)) | go_size)
def ariP (op : Int) (p q : Vl) : Vl := if p.1 = 1 ∧ q.1 = 1 then
  (if op = 13 then intP (p.2.1 + q.2.1) else if op = 14 then intP (p.2.1 + -q.2.1) else if op = 15 then mulP p.2.1 q.2.1 else if q.2.1 = 0 then nullP else if op = 16 then intP (wrap64 (p.2.1.tdiv q.2.1)) else intP (p.2.1.tmod q.2.1)) else nullP
theorem below_dn {w w' : World} {B : Nat} (h : Below B w w') (n : Nat) : Below B w (w'.drewN n) := h.trans ⟨rfl, rfl, rfl, Nat.le_refl _, fun _ _ => rfl⟩
theorem pAri_ints (op x y : Int) (s s2 : ByteArray) (w : World) (hx1 : -1125899906842624 ≤ x) (hx2 : x ≤ 1125899906842624) (hy1 : -1125899906842624 ≤ y) (hy2 : y ≤ 1125899906842624) (hop : op = 13 ∨ op = 14 ∨ op = 15 ∨ op = 16 ∨ op = 17) :
  Calls Tryz.prog 54 #[.int .i64 op, .agg #[.int .i64 1, .int .i64 x, .string s], .agg #[.int .i64 1, .int .i64 y, .string s2]] w fun e w' => e = .returned (valV (ariP op (1, x, s) (1, y, s2))) ∧ Below w.heap.size w w' := by
 have oB : Own (((w.alloc (.cells #[.int .i64 1, .int .i64 x, .string s] 23)).alloc (.cells #[.int .i64 1, .int .i64 y, .string s2] 23)).alloc (.cells #[.int .i64 0, .int .i64 0, .string ⟨#[]⟩] 23)) (w.heap.size + 1 + 1) 23 #[.int .i64 0, .int .i64 0, .string ⟨#[]⟩] := own_three _ _
 have HB := Lib.hid (show Below w.heap.size w (((w.alloc (.cells #[.int .i64 1, .int .i64 x, .string s] 23)).alloc (.cells #[.int .i64 1, .int .i64 y, .string s2] 23)).alloc (.cells #[.int .i64 0, .int .i64 0, .string ⟨#[]⟩] 23)) from ((bel_mk w _).trans ((bel_mk _ _).mono (by simp))).trans ((bel_mk _ _).mono (by simp; omega)))
 unfold ariP
 rw [if_pos ⟨rfl, rfl⟩]
 dsimp only
 rcases hop with rfl | rfl | rfl | hop
 ·rw [if_pos rfl]
  have hI := fun W => eInt (x + y) W
  generalize intP (x + y) = r at *
  obtain ⟨r1, r2, r3⟩ := r
  unfold valV at *
  dsimp only at hI ⊢
  go_enter Tryz.func54, Tryz.ntmps54
  go_wp2_with fail
  go_quiet (fail)
  go_wp2_with fail
  with_reducible refine (hI _).mono ?_
  rintro e w1 ⟨rfl, hb1⟩
  have o1 := (oB.drewN _).below hb1 (oB.drewN _).lt
  have B5 := (below_dn HB.out _).trans (hb1.mono (below_dn HB.out _).size)
  clear hb1
  have d0 := o1.cell 0; have e0 := o1.free 0; have d1 := o1.cell 1; have e1 := o1.free 1; have d2 := o1.cell 2; have e2 := o1.free 2; (try simp only [List.getElem?_toArray, List.getElem?_cons_zero, List.getElem?_cons_succ] at d0 d1 d2)
  go_wp2
  (try simp only [Exit.inBlock, Exit.then]); refine bodyPost_ret_by (results_cell_row1 (by rfl) _ _ (w.heap.size + 1 + 1) _ (by rfl) (load_val (((o1.store 0 _).store 1 _).store 2 _))) ?_ ?_; (focus rfl); refine ⟨rfl, ?_⟩
  (repeat' first | (with_reducible first | exact Below.refl _ _ | assumption | refine Below.alloc ?_ ?_ _ | refine Below.drew ?_ | refine Below.setCell ?_ ?_ _ | refine Below.trans ?_ (Below.mono (by assumption) ?_)) | go_size)
 ·rw [if_neg (by decide), if_pos rfl]
  have hI := fun W => eInt (x + -y) W
  generalize intP (x + -y) = r at *
  obtain ⟨r1, r2, r3⟩ := r
  unfold valV at *
  dsimp only at hI ⊢
  go_enter Tryz.func54, Tryz.ntmps54
  go_wp2_with fail
  go_quiet (fail)
  go_wp2_with fail
  with_reducible refine (hI _).mono ?_
  rintro e w1 ⟨rfl, hb1⟩
  have o1 := (oB.drewN _).below hb1 (oB.drewN _).lt
  have B5 := (below_dn HB.out _).trans (hb1.mono (below_dn HB.out _).size)
  clear hb1
  have d0 := o1.cell 0; have e0 := o1.free 0; have d1 := o1.cell 1; have e1 := o1.free 1; have d2 := o1.cell 2; have e2 := o1.free 2; (try simp only [List.getElem?_toArray, List.getElem?_cons_zero, List.getElem?_cons_succ] at d0 d1 d2)
  go_wp2
  (try simp only [Exit.inBlock, Exit.then]); refine bodyPost_ret_by (results_cell_row1 (by rfl) _ _ (w.heap.size + 1 + 1) _ (by rfl) (load_val (((o1.store 0 _).store 1 _).store 2 _))) ?_ ?_; (focus rfl); refine ⟨rfl, ?_⟩
  (repeat' first | (with_reducible first | exact Below.refl _ _ | assumption | refine Below.alloc ?_ ?_ _ | refine Below.drew ?_ | refine Below.setCell ?_ ?_ _ | refine Below.trans ?_ (Below.mono (by assumption) ?_)) | go_size)
 ·rw [if_neg (by decide), if_neg (by decide), if_pos rfl]
  have hI := fun W => pProd_any x y W hx1 hx2 hy1 hy2
  generalize mulP x y = r at *
  obtain ⟨r1, r2, r3⟩ := r
  unfold valV at *
  dsimp only at hI ⊢
  go_enter Tryz.func54, Tryz.ntmps54
  go_wp2_with fail
  go_quiet (fail)
  go_wp2_with fail
  with_reducible refine (hI _).mono ?_
  rintro e w1 ⟨rfl, hb1⟩
  have o1 := (oB.drewN _).below hb1 (oB.drewN _).lt
  have B5 := (below_dn HB.out _).trans (hb1.mono (below_dn HB.out _).size)
  clear hb1
  have d0 := o1.cell 0; have e0 := o1.free 0; have d1 := o1.cell 1; have e1 := o1.free 1; have d2 := o1.cell 2; have e2 := o1.free 2; (try simp only [List.getElem?_toArray, List.getElem?_cons_zero, List.getElem?_cons_succ] at d0 d1 d2)
  go_wp2
  (try simp only [Exit.inBlock, Exit.then]); refine bodyPost_ret_by (results_cell_row1 (by rfl) _ _ (w.heap.size + 1 + 1) _ (by rfl) (load_val (((o1.store 0 _).store 1 _).store 2 _))) ?_ ?_; (focus rfl); refine ⟨rfl, ?_⟩
  (repeat' first | (with_reducible first | exact Below.refl _ _ | assumption | refine Below.alloc ?_ ?_ _ | refine Below.drew ?_ | refine Below.setCell ?_ ?_ _ | refine Below.trans ?_ (Below.mono (by assumption) ?_)) | go_size)
 rw [if_neg (by omega), if_neg (by omega), if_neg (by omega)]
 by_cases y0 : y = 0
 ·subst y0
  rw [if_pos rfl]
  have hI := fun W => eNull W
  rcases hop with rfl | rfl
  all_goals
   generalize nullP = r at *
   obtain ⟨r1, r2, r3⟩ := r
   unfold valV at *
   dsimp only at hI ⊢
   go_enter Tryz.func54, Tryz.ntmps54
   go_wp2_with fail
   go_quiet (fail)
   go_wp2_with fail
   with_reducible refine (hI _).mono ?_
   rintro e w1 ⟨rfl, hb1⟩
   have o1 := (oB.drewN _).below hb1 (oB.drewN _).lt
   have B5 := (below_dn HB.out _).trans (hb1.mono (below_dn HB.out _).size)
   clear hb1
   have d0 := o1.cell 0; have e0 := o1.free 0; have d1 := o1.cell 1; have e1 := o1.free 1; have d2 := o1.cell 2; have e2 := o1.free 2; (try simp only [List.getElem?_toArray, List.getElem?_cons_zero, List.getElem?_cons_succ] at d0 d1 d2)
   go_wp2
   (try simp only [Exit.inBlock, Exit.then]); refine bodyPost_ret_by (results_cell_row1 (by rfl) _ _ (w.heap.size + 1 + 1) _ (by rfl) (load_val (((o1.store 0 _).store 1 _).store 2 _))) ?_ ?_; (focus rfl); refine ⟨rfl, ?_⟩
   (repeat' first | (with_reducible first | exact Below.refl _ _ | assumption | refine Below.alloc ?_ ?_ _ | refine Below.drew ?_ | refine Below.setCell ?_ ?_ _ | refine Below.trans ?_ (Below.mono (by assumption) ?_)) | go_size)
 have y1 : (y == 0) = false := by simp [y0]
 rw [if_neg y0]
 rcases hop with rfl | rfl
 ·rw [if_pos rfl]
  have hI := fun W => eInt (wrap64 (x.tdiv y)) W
  generalize intP (wrap64 (x.tdiv y)) = r at *
  obtain ⟨r1, r2, r3⟩ := r
  unfold valV at *
  dsimp only at hI ⊢
  go_enter Tryz.func54, Tryz.ntmps54
  go_wp2_with fail
  go_quiet (fail)
  go_wp2_with fail
  with_reducible refine (hI _).mono ?_
  rintro e w1 ⟨rfl, hb1⟩
  have o1 := (oB.drewN _).below hb1 (oB.drewN _).lt
  have B5 := (below_dn HB.out _).trans (hb1.mono (below_dn HB.out _).size)
  clear hb1
  have d0 := o1.cell 0; have e0 := o1.free 0; have d1 := o1.cell 1; have e1 := o1.free 1; have d2 := o1.cell 2; have e2 := o1.free 2; (try simp only [List.getElem?_toArray, List.getElem?_cons_zero, List.getElem?_cons_succ] at d0 d1 d2)
  go_wp2
  (try simp only [Exit.inBlock, Exit.then]); refine bodyPost_ret_by (results_cell_row1 (by rfl) _ _ (w.heap.size + 1 + 1) _ (by rfl) (load_val (((o1.store 0 _).store 1 _).store 2 _))) ?_ ?_; (focus rfl); refine ⟨rfl, ?_⟩
  (repeat' first | (with_reducible first | exact Below.refl _ _ | assumption | refine Below.alloc ?_ ?_ _ | refine Below.drew ?_ | refine Below.setCell ?_ ?_ _ | refine Below.trans ?_ (Below.mono (by assumption) ?_)) | go_size)
 ·rw [if_neg (by decide)]
  have hI := fun W => eInt (x.tmod y) W
  generalize intP (x.tmod y) = r at *
  obtain ⟨r1, r2, r3⟩ := r
  unfold valV at *
  dsimp only at hI ⊢
  go_enter Tryz.func54, Tryz.ntmps54
  go_wp2_with fail
  go_quiet (fail)
  go_wp2_with fail
  with_reducible refine (hI _).mono ?_
  rintro e w1 ⟨rfl, hb1⟩
  have o1 := (oB.drewN _).below hb1 (oB.drewN _).lt
  have B5 := (below_dn HB.out _).trans (hb1.mono (below_dn HB.out _).size)
  clear hb1
  have d0 := o1.cell 0; have e0 := o1.free 0; have d1 := o1.cell 1; have e1 := o1.free 1; have d2 := o1.cell 2; have e2 := o1.free 2; (try simp only [List.getElem?_toArray, List.getElem?_cons_zero, List.getElem?_cons_succ] at d0 d1 d2)
  go_wp2
  (try simp only [Exit.inBlock, Exit.then]); refine bodyPost_ret_by (results_cell_row1 (by rfl) _ _ (w.heap.size + 1 + 1) _ (by rfl) (load_val (((o1.store 0 _).store 1 _).store 2 _))) ?_ ?_; (focus rfl); refine ⟨rfl, ?_⟩
  (repeat' first | (with_reducible first | exact Below.refl _ _ | assumption | refine Below.alloc ?_ ?_ _ | refine Below.drew ?_ | refine Below.setCell ?_ ?_ _ | refine Below.trans ?_ (Below.mono (by assumption) ?_)) | go_size)
end Go.Proofs.YtdhemhmgenhmaaaGreat
