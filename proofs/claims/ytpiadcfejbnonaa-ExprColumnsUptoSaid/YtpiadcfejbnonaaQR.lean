import Derived.Test.YtpiadcfejbnonaaQP
import Derived.WalkKit
import Derived.WalkSpells
import Derived.WalkLawsBesides
import Derived.Deep.QuietTactic
import Derived.BigQuiet
import Derived.Handy
import Derived.Lib.Hide
/-
  Arithmetic on two values, by the program. Conditions: numbers that are values.
-/
namespace Go.Proofs.Ytpiadcfejbnonaa
set_option linter.unusedVariables false
set_option linter.unusedSimpArgs false
set_option linter.unusedVariables false
set_option linter.unusedSimpArgs false
set_option linter.unusedVariables false
set_option linter.unusedSimpArgs false
set_option maxRecDepth 100000
open Go.RowKit

/-- The result of an operation on two integers, or the null. -/
def ariP (op : Int) (p q : Vl) : Vl := if p.1 = 1 ∧ q.1 = 1 then
    (if op = 13 then intP (p.2.1 + q.2.1) else if op = 14 then intP (p.2.1 + -q.2.1) else if op = 15 then mulP p.2.1 q.2.1 else if q.2.1 = 0 then nullP else if op = 16 then intP (wrap64 (p.2.1.tdiv q.2.1)) else intP (p.2.1.tmod q.2.1)) else nullP
theorem below_dn {w w' : World} {B : Nat} (h : Below B w w') (n : Nat) : Below B w (w'.drewN n) := h.trans ⟨rfl, rfl, rfl, Nat.le_refl _, fun _ _ => rfl⟩
set_option maxRecDepth 100000 in
set_option maxHeartbeats 3200000 in
theorem pAri_ints (op x y : Int) (s s2 : ByteArray) (w : World) (hx1 : -1125899906842624 ≤ x) (hx2 : x ≤ 1125899906842624) (hy1 : -1125899906842624 ≤ y) (hy2 : y ≤ 1125899906842624) (hop : op = 13 ∨ op = 14 ∨ op = 15 ∨ op = 16 ∨ op = 17) :
    Calls Try.prog 42 #[.int .i64 op, .agg #[.int .i64 1, .int .i64 x, .string s], .agg #[.int .i64 1, .int .i64 y, .string s2]] w fun e w' => e = .returned (valV (ariP op (1, x, s) (1, y, s2))) ∧ Below w.heap.size w w' := by
  have oB : Own (((w.alloc (.cells #[.int .i64 1, .int .i64 x, .string s] 23)).alloc (.cells #[.int .i64 1, .int .i64 y, .string s2] 23)).alloc (.cells #[.int .i64 0, .int .i64 0, .string ⟨#[]⟩] 23)) (w.heap.size + 1 + 1) 23 #[.int .i64 0, .int .i64 0, .string ⟨#[]⟩] := own_three _ _
  have HB := Lib.hid (show Below w.heap.size w (((w.alloc (.cells #[.int .i64 1, .int .i64 x, .string s] 23)).alloc (.cells #[.int .i64 1, .int .i64 y, .string s2] 23)).alloc (.cells #[.int .i64 0, .int .i64 0, .string ⟨#[]⟩] 23)) from ((bel_mk w _).trans ((bel_mk _ _).mono (by simp))).trans ((bel_mk _ _).mono (by simp; omega)))
  unfold ariP
  rw [if_pos ⟨rfl, rfl⟩]
  dsimp only
  rcases hop with rfl | rfl | rfl | hop
  · rw [if_pos rfl]
    have hI := fun W => eInt (x + y) W
    generalize intP (x + y) = r at *
    obtain ⟨r1, r2, r3⟩ := r
    unfold valV at *
    dsimp only at hI ⊢
    go_enter Try.func42, Try.ntmps42
    go_wp2_with fail
    go_quiet (fail)
    go_wp2_with fail
    with_reducible refine (hI _).mono ?_
    rintro e w1 ⟨rfl, hb1⟩
    have o1 := (oB.drewN _).below hb1 (oB.drewN _).lt
    have B5 := (below_dn HB.out _).trans (hb1.mono (below_dn HB.out _).size)
    clear hb1
    have d0 := o1.cell 0; have e0 := o1.free 0; have d1 := o1.cell 1; have e1 := o1.free 1; have d2 := o1.cell 2; have e2 := o1.free 2; (try simp only [List.getElem?_toArray, List.getElem?_cons_zero, List.getElem?_cons_succ] at d0 d1 d2)
    go_wp2
    (try simp only [Exit.inBlock, Exit.then]); refine bodyPost_ret_by (results_cell_row1 (by rfl) _ _ (w.heap.size + 1 + 1) _ (by rfl) (load_val (((o1.store 0 _).store 1 _).store 2 _))) ?_ ?_; (focus rfl); refine ⟨rfl, ?_⟩
    (repeat' (first | (with_reducible exact Below.refl _ _) | (with_reducible assumption) | (with_reducible refine Below.alloc ?_ ?_ _) | (with_reducible refine Below.drew ?_) | (with_reducible refine Below.setCell ?_ ?_ _) | (with_reducible refine Below.trans ?_ (Below.mono (by assumption) ?_)) | go_size))
  · rw [if_neg (by decide), if_pos rfl]
    have hI := fun W => eInt (x + -y) W
    generalize intP (x + -y) = r at *
    obtain ⟨r1, r2, r3⟩ := r
    unfold valV at *
    dsimp only at hI ⊢
    go_enter Try.func42, Try.ntmps42
    go_wp2_with fail
    go_quiet (fail)
    go_wp2_with fail
    with_reducible refine (hI _).mono ?_
    rintro e w1 ⟨rfl, hb1⟩
    have o1 := (oB.drewN _).below hb1 (oB.drewN _).lt
    have B5 := (below_dn HB.out _).trans (hb1.mono (below_dn HB.out _).size)
    clear hb1
    have d0 := o1.cell 0; have e0 := o1.free 0; have d1 := o1.cell 1; have e1 := o1.free 1; have d2 := o1.cell 2; have e2 := o1.free 2; (try simp only [List.getElem?_toArray, List.getElem?_cons_zero, List.getElem?_cons_succ] at d0 d1 d2)
    go_wp2
    (try simp only [Exit.inBlock, Exit.then]); refine bodyPost_ret_by (results_cell_row1 (by rfl) _ _ (w.heap.size + 1 + 1) _ (by rfl) (load_val (((o1.store 0 _).store 1 _).store 2 _))) ?_ ?_; (focus rfl); refine ⟨rfl, ?_⟩
    (repeat' (first | (with_reducible exact Below.refl _ _) | (with_reducible assumption) | (with_reducible refine Below.alloc ?_ ?_ _) | (with_reducible refine Below.drew ?_) | (with_reducible refine Below.setCell ?_ ?_ _) | (with_reducible refine Below.trans ?_ (Below.mono (by assumption) ?_)) | go_size))
  · rw [if_neg (by decide), if_neg (by decide), if_pos rfl]
    have hI := fun W => pProd_any x y W hx1 hx2 hy1 hy2
    generalize mulP x y = r at *
    obtain ⟨r1, r2, r3⟩ := r
    unfold valV at *
    dsimp only at hI ⊢
    go_enter Try.func42, Try.ntmps42
    go_wp2_with fail
    go_quiet (fail)
    go_wp2_with fail
    with_reducible refine (hI _).mono ?_
    rintro e w1 ⟨rfl, hb1⟩
    have o1 := (oB.drewN _).below hb1 (oB.drewN _).lt
    have B5 := (below_dn HB.out _).trans (hb1.mono (below_dn HB.out _).size)
    clear hb1
    have d0 := o1.cell 0; have e0 := o1.free 0; have d1 := o1.cell 1; have e1 := o1.free 1; have d2 := o1.cell 2; have e2 := o1.free 2; (try simp only [List.getElem?_toArray, List.getElem?_cons_zero, List.getElem?_cons_succ] at d0 d1 d2)
    go_wp2
    (try simp only [Exit.inBlock, Exit.then]); refine bodyPost_ret_by (results_cell_row1 (by rfl) _ _ (w.heap.size + 1 + 1) _ (by rfl) (load_val (((o1.store 0 _).store 1 _).store 2 _))) ?_ ?_; (focus rfl); refine ⟨rfl, ?_⟩
    (repeat' (first | (with_reducible exact Below.refl _ _) | (with_reducible assumption) | (with_reducible refine Below.alloc ?_ ?_ _) | (with_reducible refine Below.drew ?_) | (with_reducible refine Below.setCell ?_ ?_ _) | (with_reducible refine Below.trans ?_ (Below.mono (by assumption) ?_)) | go_size))
  rw [if_neg (by omega), if_neg (by omega), if_neg (by omega)]
  by_cases y0 : y = 0
  · subst y0
    rw [if_pos rfl]
    have hI := fun W => eNull W
    rcases hop with rfl | rfl
    all_goals
      generalize nullP = r at *
      obtain ⟨r1, r2, r3⟩ := r
      unfold valV at *
      dsimp only at hI ⊢
      go_enter Try.func42, Try.ntmps42
      go_wp2_with fail
      go_quiet (fail)
      go_wp2_with fail
      with_reducible refine (hI _).mono ?_
      rintro e w1 ⟨rfl, hb1⟩
      have o1 := (oB.drewN _).below hb1 (oB.drewN _).lt
      have B5 := (below_dn HB.out _).trans (hb1.mono (below_dn HB.out _).size)
      clear hb1
      have d0 := o1.cell 0; have e0 := o1.free 0; have d1 := o1.cell 1; have e1 := o1.free 1; have d2 := o1.cell 2; have e2 := o1.free 2; (try simp only [List.getElem?_toArray, List.getElem?_cons_zero, List.getElem?_cons_succ] at d0 d1 d2)
      go_wp2
      (try simp only [Exit.inBlock, Exit.then]); refine bodyPost_ret_by (results_cell_row1 (by rfl) _ _ (w.heap.size + 1 + 1) _ (by rfl) (load_val (((o1.store 0 _).store 1 _).store 2 _))) ?_ ?_; (focus rfl); refine ⟨rfl, ?_⟩
      (repeat' (first | (with_reducible exact Below.refl _ _) | (with_reducible assumption) | (with_reducible refine Below.alloc ?_ ?_ _) | (with_reducible refine Below.drew ?_) | (with_reducible refine Below.setCell ?_ ?_ _) | (with_reducible refine Below.trans ?_ (Below.mono (by assumption) ?_)) | go_size))
  have y1 : (y == 0) = false := by simp [y0]
  rw [if_neg y0]
  rcases hop with rfl | rfl
  · rw [if_pos rfl]
    have hI := fun W => eInt (wrap64 (x.tdiv y)) W
    generalize intP (wrap64 (x.tdiv y)) = r at *
    obtain ⟨r1, r2, r3⟩ := r
    unfold valV at *
    dsimp only at hI ⊢
    go_enter Try.func42, Try.ntmps42
    go_wp2_with fail
    go_quiet (fail)
    go_wp2_with fail
    with_reducible refine (hI _).mono ?_
    rintro e w1 ⟨rfl, hb1⟩
    have o1 := (oB.drewN _).below hb1 (oB.drewN _).lt
    have B5 := (below_dn HB.out _).trans (hb1.mono (below_dn HB.out _).size)
    clear hb1
    have d0 := o1.cell 0; have e0 := o1.free 0; have d1 := o1.cell 1; have e1 := o1.free 1; have d2 := o1.cell 2; have e2 := o1.free 2; (try simp only [List.getElem?_toArray, List.getElem?_cons_zero, List.getElem?_cons_succ] at d0 d1 d2)
    go_wp2
    (try simp only [Exit.inBlock, Exit.then]); refine bodyPost_ret_by (results_cell_row1 (by rfl) _ _ (w.heap.size + 1 + 1) _ (by rfl) (load_val (((o1.store 0 _).store 1 _).store 2 _))) ?_ ?_; (focus rfl); refine ⟨rfl, ?_⟩
    (repeat' (first | (with_reducible exact Below.refl _ _) | (with_reducible assumption) | (with_reducible refine Below.alloc ?_ ?_ _) | (with_reducible refine Below.drew ?_) | (with_reducible refine Below.setCell ?_ ?_ _) | (with_reducible refine Below.trans ?_ (Below.mono (by assumption) ?_)) | go_size))
  · rw [if_neg (by decide)]
    have hI := fun W => eInt (x.tmod y) W
    generalize intP (x.tmod y) = r at *
    obtain ⟨r1, r2, r3⟩ := r
    unfold valV at *
    dsimp only at hI ⊢
    go_enter Try.func42, Try.ntmps42
    go_wp2_with fail
    go_quiet (fail)
    go_wp2_with fail
    with_reducible refine (hI _).mono ?_
    rintro e w1 ⟨rfl, hb1⟩
    have o1 := (oB.drewN _).below hb1 (oB.drewN _).lt
    have B5 := (below_dn HB.out _).trans (hb1.mono (below_dn HB.out _).size)
    clear hb1
    have d0 := o1.cell 0; have e0 := o1.free 0; have d1 := o1.cell 1; have e1 := o1.free 1; have d2 := o1.cell 2; have e2 := o1.free 2; (try simp only [List.getElem?_toArray, List.getElem?_cons_zero, List.getElem?_cons_succ] at d0 d1 d2)
    go_wp2
    (try simp only [Exit.inBlock, Exit.then]); refine bodyPost_ret_by (results_cell_row1 (by rfl) _ _ (w.heap.size + 1 + 1) _ (by rfl) (load_val (((o1.store 0 _).store 1 _).store 2 _))) ?_ ?_; (focus rfl); refine ⟨rfl, ?_⟩
    (repeat' (first | (with_reducible exact Below.refl _ _) | (with_reducible assumption) | (with_reducible refine Below.alloc ?_ ?_ _) | (with_reducible refine Below.drew ?_) | (with_reducible refine Below.setCell ?_ ?_ _) | (with_reducible refine Below.trans ?_ (Below.mono (by assumption) ?_)) | go_size))
end Go.Proofs.Ytpiadcfejbnonaa
