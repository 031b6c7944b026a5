import Derived.Test.YtdhemhmgenhmaaaGreatMV
import Derived.WalkKit
import Derived.WalkSpells
import Derived.WalkLawsBesides
import Derived.Deep.QuietTactic
import Derived.BigQuiet
import Derived.Handy
import Derived.Lib.Hide
import Derived.Test.YtdhemhmgenhmaaaGreatMA
import Derived.Laws.StructEq
set_option maxRecDepth 100000
set_option maxHeartbeats 25600000
set_option linter.unusedVariables false
set_option linter.unusedSimpArgs false
/-
  Values: constructors, comparisons, truth: what each function answers, in every world. Conditions: none.
-/
namespace Go.Proofs.YtdhemhmgenhmaaaGreat.Va
open Go.RowKit
def nrm (k n : Int) (s : ByteArray) : Value := if vldV k n s then vV k n s else vV 0 0 ⟨#[]⟩
theorem pOrNull_any (k n : Int) (s : ByteArray) (w : World) : Calls Tryz.prog 101 #[vV k n s] w fun e w' => e = .returned (nrm k n s) ∧ Below w.heap.size w w' := by
 have hV := fun W => pValid_any k n s W
 have hN := fun W => pNull_any W
 unfold nrm
 unfold vV at *
 have oB : Own ((w.alloc (.cells #[.int .i64 k, .int .i64 n, .string s] 23)).alloc (.cells #[.int .i64 0, .int .i64 0, .string ⟨#[]⟩] 23)) (w.heap.size + 1) 23 #[.int .i64 0, .int .i64 0, .string ⟨#[]⟩] := own_two _
 have oA : Own ((w.alloc (.cells #[.int .i64 k, .int .i64 n, .string s] 23)).alloc (.cells #[.int .i64 0, .int .i64 0, .string ⟨#[]⟩] 23)) w.heap.size 23 #[.int .i64 k, .int .i64 n, .string s] := (Own.new _ _ _).alloc _
 cases hv : vldV k n s
 ·rw [if_neg (by simp)]
  rw [hv] at hV
  go_enter Tryz.func101, Tryz.ntmps101
  go_wp2_with fail
  refine (hV _).mono ?_
  rintro e w1 ⟨rfl, hb1⟩
  have z1 := hb1.size
  simp only [World.size_alloc] at z1
  have o1 := oB.below hb1 (by simp only [World.size_alloc]; omega)
  go_wp2_with fail
  refine (hN _).mono ?_
  rintro e w2 ⟨rfl, hb2⟩
  have z2 := hb2.size
  have o2 := o1.below hb2 (by omega)
  have d0 := o2.cell 0; have e0 := o2.free 0; have d1 := o2.cell 1; have e1 := o2.free 1; have d2 := o2.cell 2; have e2 := o2.free 2; (try simp only [List.getElem?_toArray, List.getElem?_cons_zero, List.getElem?_cons_succ] at d0 d1 d2)
  go_wp2
  (try simp only [Exit.inBlock, Exit.then]); refine bodyPost_ret_by (results_cell_row1 (by rfl) _ _ (w.heap.size + 1) _ (by rfl) (load_val (((o2.store 0 _).store 1 _).store 2 _))) ?_ ?_; (focus rfl); refine ⟨rfl, ?_⟩
  (repeat' first | (with_reducible first | exact Below.refl _ _ | assumption | refine Below.alloc ?_ ?_ _ | refine Below.drew ?_ | refine Below.setCell ?_ ?_ _ | refine Below.trans ?_ (Below.mono (by assumption) ?_)) | go_size)
 ·rw [if_pos rfl]
  rw [hv] at hV
  go_enter Tryz.func101, Tryz.ntmps101
  go_wp2_with fail
  refine (hV _).mono ?_
  rintro e w1 ⟨rfl, hb1⟩
  have z1 := hb1.size
  simp only [World.size_alloc] at z1
  have o1 := oB.below hb1 (by simp only [World.size_alloc]; omega)
  have a1 := oA.below hb1 (by simp only [World.size_alloc]; omega)
  have d0 := o1.cell 0; have e0 := o1.free 0; have d1 := o1.cell 1; have e1 := o1.free 1; have d2 := o1.cell 2; have e2 := o1.free 2; (try simp only [List.getElem?_toArray, List.getElem?_cons_zero, List.getElem?_cons_succ] at d0 d1 d2)
  have d0a := a1.cell 0; have e0a := a1.free 0; have d1a := a1.cell 1; have e1a := a1.free 1; have d2a := a1.cell 2; have e2a := a1.free 2; (try simp only [List.getElem?_toArray, List.getElem?_cons_zero, List.getElem?_cons_succ] at d0a d1a d2a)
  go_wp2
  (try simp only [Exit.inBlock, Exit.then]); refine bodyPost_ret_by (results_cell_row1 (by rfl) _ _ (w.heap.size + 1) _ (by rfl) (load_val (((o1.store 0 _).store 1 _).store 2 _))) ?_ ?_; (focus rfl); refine ⟨rfl, ?_⟩
  (repeat' first | (with_reducible first | exact Below.refl _ _ | assumption | refine Below.alloc ?_ ?_ _ | refine Below.drew ?_ | refine Below.setCell ?_ ?_ _ | refine Below.trans ?_ (Below.mono (by assumption) ?_)) | go_size)
theorem rNorm_any (k n : Int) (s : ByteArray) (w : World) : Calls Tryz.prog 72 #[vV k n s] w fun e w' => e = .returned (nrm k n s) ∧ Below w.heap.size w w' := by
 have hV := fun W => rValid_any k n s W
 have hN := fun W => rNull_any W
 unfold nrm
 unfold vV at *
 have oB : Own ((w.alloc (.cells #[.int .i64 k, .int .i64 n, .string s] 23)).alloc (.cells #[.int .i64 0, .int .i64 0, .string ⟨#[]⟩] 23)) (w.heap.size + 1) 23 #[.int .i64 0, .int .i64 0, .string ⟨#[]⟩] := own_two _
 have oA : Own ((w.alloc (.cells #[.int .i64 k, .int .i64 n, .string s] 23)).alloc (.cells #[.int .i64 0, .int .i64 0, .string ⟨#[]⟩] 23)) w.heap.size 23 #[.int .i64 k, .int .i64 n, .string s] := (Own.new _ _ _).alloc _
 cases hv : vldV k n s
 ·rw [if_neg (by simp)]
  rw [hv] at hV
  go_enter Tryz.func72, Tryz.ntmps72
  go_wp2_with fail
  refine (hV _).mono ?_
  rintro e w1 ⟨rfl, hb1⟩
  have z1 := hb1.size
  simp only [World.size_alloc] at z1
  have o1 := oB.below hb1 (by simp only [World.size_alloc]; omega)
  go_wp2_with fail
  refine (hN _).mono ?_
  rintro e w2 ⟨rfl, hb2⟩
  have z2 := hb2.size
  have o2 := o1.below hb2 (by omega)
  have d0 := o2.cell 0; have e0 := o2.free 0; have d1 := o2.cell 1; have e1 := o2.free 1; have d2 := o2.cell 2; have e2 := o2.free 2; (try simp only [List.getElem?_toArray, List.getElem?_cons_zero, List.getElem?_cons_succ] at d0 d1 d2)
  go_wp2
  (try simp only [Exit.inBlock, Exit.then]); refine bodyPost_ret_by (results_cell_row1 (by rfl) _ _ (w.heap.size + 1) _ (by rfl) (load_val (((o2.store 0 _).store 1 _).store 2 _))) ?_ ?_; (focus rfl); refine ⟨rfl, ?_⟩
  (repeat' first | (with_reducible first | exact Below.refl _ _ | assumption | refine Below.alloc ?_ ?_ _ | refine Below.drew ?_ | refine Below.setCell ?_ ?_ _ | refine Below.trans ?_ (Below.mono (by assumption) ?_)) | go_size)
 ·rw [if_pos rfl]
  rw [hv] at hV
  go_enter Tryz.func72, Tryz.ntmps72
  go_wp2_with fail
  refine (hV _).mono ?_
  rintro e w1 ⟨rfl, hb1⟩
  have z1 := hb1.size
  simp only [World.size_alloc] at z1
  have o1 := oB.below hb1 (by simp only [World.size_alloc]; omega)
  have a1 := oA.below hb1 (by simp only [World.size_alloc]; omega)
  have d0 := o1.cell 0; have e0 := o1.free 0; have d1 := o1.cell 1; have e1 := o1.free 1; have d2 := o1.cell 2; have e2 := o1.free 2; (try simp only [List.getElem?_toArray, List.getElem?_cons_zero, List.getElem?_cons_succ] at d0 d1 d2)
  have d0a := a1.cell 0; have e0a := a1.free 0; have d1a := a1.cell 1; have e1a := a1.free 1; have d2a := a1.cell 2; have e2a := a1.free 2; (try simp only [List.getElem?_toArray, List.getElem?_cons_zero, List.getElem?_cons_succ] at d0a d1a d2a)
  go_wp2
  (try simp only [Exit.inBlock, Exit.then]); refine bodyPost_ret_by (results_cell_row1 (by rfl) _ _ (w.heap.size + 1) _ (by rfl) (load_val (((o1.store 0 _).store 1 _).store 2 _))) ?_ ?_; (focus rfl); refine ⟨rfl, ?_⟩
  (repeat' first | (with_reducible first | exact Below.refl _ _ | assumption | refine Below.alloc ?_ ?_ _ | refine Below.drew ?_ | refine Below.setCell ?_ ?_ _ | refine Below.trans ?_ (Below.mono (by assumption) ?_)) | go_size)
theorem pInt_any (n : Int) (w : World) : Calls Tryz.prog 55 #[.int .i64 n] w fun e w' => e = .returned (nrm 1 n ⟨#[]⟩) ∧ Below w.heap.size w w' := by
 have hO := fun W => pOrNull_any 1 n ⟨#[]⟩ W
 have oB : Own (w.alloc (.cells #[.int .i64 0, .int .i64 0, .string ⟨#[]⟩] 23)) w.heap.size 23 #[.int .i64 0, .int .i64 0, .string ⟨#[]⟩] := Own.new _ _ _
 unfold nrm at *
 cases hv : vldV 1 n ⟨#[]⟩
 all_goals
  rw [hv] at hO
  simp only [if_true, Bool.false_eq_true, if_false] at hO ⊢
  unfold vV at *
  go_enter Tryz.func55, Tryz.ntmps55
  go_wp2_with fail
  refine (hO _).mono ?_
  rintro e w1 ⟨rfl, hb1⟩
  have z1 := hb1.size
  simp only [World.size_alloc] at z1
  have o1 := oB.below hb1 (by simp only [World.size_alloc]; omega)
  have d0 := o1.cell 0; have e0 := o1.free 0; have d1 := o1.cell 1; have e1 := o1.free 1; have d2 := o1.cell 2; have e2 := o1.free 2; (try simp only [List.getElem?_toArray, List.getElem?_cons_zero, List.getElem?_cons_succ] at d0 d1 d2)
  go_wp2
  (try simp only [Exit.inBlock, Exit.then]); refine bodyPost_ret_by (results_cell_row1 (by rfl) _ _ (w.heap.size) _ (by rfl) (load_val (((o1.store 0 _).store 1 _).store 2 _))) ?_ ?_; (focus rfl); refine ⟨rfl, ?_⟩
  (repeat' first | (with_reducible first | exact Below.refl _ _ | assumption | refine Below.alloc ?_ ?_ _ | refine Below.drew ?_ | refine Below.setCell ?_ ?_ _ | refine Below.trans ?_ (Below.mono (by assumption) ?_)) | go_size)
theorem rInt_any (n : Int) (w : World) : Calls Tryz.prog 28 #[.int .i64 n] w fun e w' => e = .returned (nrm 1 n ⟨#[]⟩) ∧ Below w.heap.size w w' := by
 have hO := fun W => rNorm_any 1 n ⟨#[]⟩ W
 have oB : Own (w.alloc (.cells #[.int .i64 0, .int .i64 0, .string ⟨#[]⟩] 23)) w.heap.size 23 #[.int .i64 0, .int .i64 0, .string ⟨#[]⟩] := Own.new _ _ _
 unfold nrm at *
 cases hv : vldV 1 n ⟨#[]⟩
 all_goals
  rw [hv] at hO
  simp only [if_true, Bool.false_eq_true, if_false] at hO ⊢
  unfold vV at *
  go_enter Tryz.func28, Tryz.ntmps28
  go_wp2_with fail
  refine (hO _).mono ?_
  rintro e w1 ⟨rfl, hb1⟩
  have z1 := hb1.size
  simp only [World.size_alloc] at z1
  have o1 := oB.below hb1 (by simp only [World.size_alloc]; omega)
  have d0 := o1.cell 0; have e0 := o1.free 0; have d1 := o1.cell 1; have e1 := o1.free 1; have d2 := o1.cell 2; have e2 := o1.free 2; (try simp only [List.getElem?_toArray, List.getElem?_cons_zero, List.getElem?_cons_succ] at d0 d1 d2)
  go_wp2
  (try simp only [Exit.inBlock, Exit.then]); refine bodyPost_ret_by (results_cell_row1 (by rfl) _ _ (w.heap.size) _ (by rfl) (load_val (((o1.store 0 _).store 1 _).store 2 _))) ?_ ?_; (focus rfl); refine ⟨rfl, ?_⟩
  (repeat' first | (with_reducible first | exact Below.refl _ _ | assumption | refine Below.alloc ?_ ?_ _ | refine Below.drew ?_ | refine Below.setCell ?_ ?_ _ | refine Below.trans ?_ (Below.mono (by assumption) ?_)) | go_size)
theorem pText_any (s : ByteArray) (w : World) : Calls Tryz.prog 102 #[.string s] w fun e w' => e = .returned (nrm 2 0 s) ∧ Below w.heap.size w w' := by
 have hO := fun W => pOrNull_any 2 0 s W
 have oB : Own (w.alloc (.cells #[.int .i64 0, .int .i64 0, .string ⟨#[]⟩] 23)) w.heap.size 23 #[.int .i64 0, .int .i64 0, .string ⟨#[]⟩] := Own.new _ _ _
 unfold nrm at *
 cases hv : vldV 2 0 s
 all_goals
  rw [hv] at hO
  simp only [if_true, Bool.false_eq_true, if_false] at hO ⊢
  unfold vV at *
  go_enter Tryz.func102, Tryz.ntmps102
  go_wp2_with fail
  refine (hO _).mono ?_
  rintro e w1 ⟨rfl, hb1⟩
  have z1 := hb1.size
  simp only [World.size_alloc] at z1
  have o1 := oB.below hb1 (by simp only [World.size_alloc]; omega)
  have d0 := o1.cell 0; have e0 := o1.free 0; have d1 := o1.cell 1; have e1 := o1.free 1; have d2 := o1.cell 2; have e2 := o1.free 2; (try simp only [List.getElem?_toArray, List.getElem?_cons_zero, List.getElem?_cons_succ] at d0 d1 d2)
  go_wp2
  (try simp only [Exit.inBlock, Exit.then]); refine bodyPost_ret_by (results_cell_row1 (by rfl) _ _ (w.heap.size) _ (by rfl) (load_val (((o1.store 0 _).store 1 _).store 2 _))) ?_ ?_; (focus rfl); refine ⟨rfl, ?_⟩
  (repeat' first | (with_reducible first | exact Below.refl _ _ | assumption | refine Below.alloc ?_ ?_ _ | refine Below.drew ?_ | refine Below.setCell ?_ ?_ _ | refine Below.trans ?_ (Below.mono (by assumption) ?_)) | go_size)
theorem rText_any (s : ByteArray) (w : World) : Calls Tryz.prog 73 #[.string s] w fun e w' => e = .returned (nrm 2 0 s) ∧ Below w.heap.size w w' := by
 have hO := fun W => rNorm_any 2 0 s W
 have oB : Own (w.alloc (.cells #[.int .i64 0, .int .i64 0, .string ⟨#[]⟩] 23)) w.heap.size 23 #[.int .i64 0, .int .i64 0, .string ⟨#[]⟩] := Own.new _ _ _
 unfold nrm at *
 cases hv : vldV 2 0 s
 all_goals
  rw [hv] at hO
  simp only [if_true, Bool.false_eq_true, if_false] at hO ⊢
  unfold vV at *
  go_enter Tryz.func73, Tryz.ntmps73
  go_wp2_with fail
  refine (hO _).mono ?_
  rintro e w1 ⟨rfl, hb1⟩
  have z1 := hb1.size
  simp only [World.size_alloc] at z1
  have o1 := oB.below hb1 (by simp only [World.size_alloc]; omega)
  have d0 := o1.cell 0; have e0 := o1.free 0; have d1 := o1.cell 1; have e1 := o1.free 1; have d2 := o1.cell 2; have e2 := o1.free 2; (try simp only [List.getElem?_toArray, List.getElem?_cons_zero, List.getElem?_cons_succ] at d0 d1 d2)
  go_wp2
  (try simp only [Exit.inBlock, Exit.then]); refine bodyPost_ret_by (results_cell_row1 (by rfl) _ _ (w.heap.size) _ (by rfl) (load_val (((o1.store 0 _).store 1 _).store 2 _))) ?_ ?_; (focus rfl); refine ⟨rfl, ?_⟩
  (repeat' first | (with_reducible first | exact Below.refl _ _ | assumption | refine Below.alloc ?_ ?_ _ | refine Below.drew ?_ | refine Below.setCell ?_ ?_ _ | refine Below.trans ?_ (Below.mono (by assumption) ?_)) | go_size)
end Go.Proofs.YtdhemhmgenhmaaaGreat.Va
namespace Go.Proofs.YtdhemhmgenhmaaaGreat.Va
open Go.RowKit
theorem val_cells {W : World} {g : Nat} {x y z : Value} (hg : g < W.heap.size) (o : Own W g 23 #[x, y, z]) : (∀ p : After W, p.w.cell? ⟨g, 0, none⟩ = some x) ∧ (∀ p : After W, p.w.cell? ⟨g, 1, none⟩ = some y) ∧ (∀ p : After W, p.w.cell? ⟨g, 2, none⟩ = some z) :=
 ⟨after_cell hg (o.cell 0), after_cell hg (o.cell 1), after_cell hg (o.cell 2)⟩
def eqV (k n : Int) (s : ByteArray) (k2 n2 : Int) (s2 : ByteArray) : Bool := k == k2 && (n == n2 && s.toList == s2.toList)
theorem eql_val (k n : Int) (s : ByteArray) (k2 n2 : Int) (s2 : ByteArray) (w : World) : (binOp .eql 23 (.agg #[.int .i64 k, .int .i64 n, .string s]) (.agg #[.int .i64 k2, .int .i64 n2, .string s2])).run Tryz.prog w = .ok (.bool (eqV k n s k2 n2 s2)) w := by
 rw [run_eql_struct, run_equalIn_struct w 9999 23 _ _ (by kernel_rfl) (by kernel_rfl)]
 simp [Program.fieldsOf, Op.eqFields, Tryz.underlying23, Tryz.underlying3, Tryz.underlying9, part, isAgg, go_sem]
 unfold eqV
 by_cases h1 : k = k2 <;> by_cases h2 : n = n2 <;> by_cases h3 : s.toList = s2.toList <;> simp [h1, h2, h3]
theorem neq_val (k n : Int) (s : ByteArray) (k2 n2 : Int) (s2 : ByteArray) (w : World) : (binOp .neq 23 (.agg #[.int .i64 k, .int .i64 n, .string s]) (.agg #[.int .i64 k2, .int .i64 n2, .string s2])).run Tryz.prog w = .ok (.bool (!eqV k n s k2 n2 s2)) w := by
 rw [run_neq_struct, run_equalIn_struct w 9999 23 _ _ (by kernel_rfl) (by kernel_rfl)]
 simp [Program.fieldsOf, Op.eqFields, Tryz.underlying23, Tryz.underlying3, Tryz.underlying9, part, isAgg, go_sem]
 unfold eqV
 by_cases h1 : k = k2 <;> by_cases h2 : n = n2 <;> by_cases h3 : s.toList = s2.toList <;> simp [h1, h2, h3]
def truV (k n : Int) (s : ByteArray) : Int := if eqV k n s 3 1 ⟨#[]⟩ then 2 else if eqV k n s 3 0 ⟨#[]⟩ then 0 else 1
theorem pTruth_any (k n : Int) (s : ByteArray) (w : World) :
  Calls Tryz.prog 60 #[vV k n s] w fun e w' => e = .returned (.int .i64 (truV k n s)) ∧ Below w.heap.size w w' := by
 unfold vV truV
 have hB := fun b W => pBool_any b W
 have bW := (Below.refl w.heap.size w).alloc (Nat.le_refl _) (.cells #[.int .i64 k, .int .i64 n, .string s] 23)
 have oW := Own.new w 23 #[.int .i64 k, .int .i64 n, .string s]
 have sW : w.heap.size < (w.alloc (.cells #[.int .i64 k, .int .i64 n, .string s] 23)).heap.size := by simp
 have hT : ∀ W, Calls Tryz.prog 58 #[.bool true] W fun e w' => e = .returned (.agg #[.int .i64 3, .int .i64 1, .string ⟨#[]⟩]) ∧ Below W.heap.size W w' := fun W => hB true W
 have hF : ∀ W, Calls Tryz.prog 58 #[.bool false] W fun e w' => e = .returned (.agg #[.int .i64 3, .int .i64 0, .string ⟨#[]⟩]) ∧ Below W.heap.size W w' := fun W => hB false W
 have q1 := fun W => eql_val k n s 3 1 ⟨#[]⟩ W
 have q2 := fun W => eql_val k n s 3 0 ⟨#[]⟩ W
 clear hB
 generalize eqV k n s 3 1 ⟨#[]⟩ = b1 at *
 generalize eqV k n s 3 0 ⟨#[]⟩ = b2 at *
 go_enter Tryz.func60, Tryz.ntmps60
 go_wp2_with fail
 have bB := Nat.le_refl w.heap.size
 generalize w.alloc (.cells #[.int .i64 k, .int .i64 n, .string s] 23) = W at *
 generalize hg : w.heap.size = g at *
 obtain ⟨f0, f1, f2⟩ := val_cells sW oW
 (refine wp_region_after (by kernel_rfl) (by kernel_rfl) ?_; (repeat (go_big_quiet_step ((go_at_call 58; exact calls_after (hT _))))); refine wpQuiet_nil ?_; intro wq hw0; obtain ⟨⟨wq0, hbq⟩, hw1⟩ := hw0; subst hw1; (try dsimp only))
 have sQ := hbq.size
 have sq : g < wq.heap.size := by omega
 have oQ := oW.below hbq sW
 have bQ := bW.trans (hbq.mono (by omega))
 clear f0 f1 f2
 obtain ⟨f0, f1, f2⟩ := val_cells sq oQ
 cases b1
 ·go_wp2_with fail
  (refine wp_region_after (by kernel_rfl) (by kernel_rfl) ?_; (repeat (go_big_quiet_step ((go_at_call 58; exact calls_after (hF _))))); refine wpQuiet_nil ?_; intro wq2 hw0; obtain ⟨⟨wq0, hbq2⟩, hw1⟩ := hw0; subst hw1; (try dsimp only))
  have bQ2 := bQ.trans (hbq2.mono (by omega))
  cases b2
  ·go_wp2
   go_ret
   exact ⟨rfl, bQ2⟩
  ·go_wp2
   go_ret
   exact ⟨rfl, bQ2⟩
 ·go_wp2
  go_ret
  exact ⟨rfl, bQ⟩
theorem rTruth_any (k n : Int) (s : ByteArray) (w : World) :
  Calls Tryz.prog 24 #[vV k n s] w fun e w' => e = .returned (.int .i64 (truV k n s)) ∧ Below w.heap.size w w' := by
 unfold vV truV
 have hB := fun b W => rBool_any b W
 have bW := (Below.refl w.heap.size w).alloc (Nat.le_refl _) (.cells #[.int .i64 k, .int .i64 n, .string s] 23)
 have oW := Own.new w 23 #[.int .i64 k, .int .i64 n, .string s]
 have sW : w.heap.size < (w.alloc (.cells #[.int .i64 k, .int .i64 n, .string s] 23)).heap.size := by simp
 have hT : ∀ W, Calls Tryz.prog 30 #[.bool true] W fun e w' => e = .returned (.agg #[.int .i64 3, .int .i64 1, .string ⟨#[]⟩]) ∧ Below W.heap.size W w' := fun W => hB true W
 have hF : ∀ W, Calls Tryz.prog 30 #[.bool false] W fun e w' => e = .returned (.agg #[.int .i64 3, .int .i64 0, .string ⟨#[]⟩]) ∧ Below W.heap.size W w' := fun W => hB false W
 have q1 := fun W => eql_val k n s 3 1 ⟨#[]⟩ W
 have q2 := fun W => eql_val k n s 3 0 ⟨#[]⟩ W
 clear hB
 generalize eqV k n s 3 1 ⟨#[]⟩ = b1 at *
 generalize eqV k n s 3 0 ⟨#[]⟩ = b2 at *
 go_enter Tryz.func24, Tryz.ntmps24
 go_wp2_with fail
 have bB := Nat.le_refl w.heap.size
 generalize w.alloc (.cells #[.int .i64 k, .int .i64 n, .string s] 23) = W at *
 generalize hg : w.heap.size = g at *
 obtain ⟨f0, f1, f2⟩ := val_cells sW oW
 (refine wp_region_after (by kernel_rfl) (by kernel_rfl) ?_; (repeat (go_big_quiet_step ((go_at_call 30; exact calls_after (hT _))))); refine wpQuiet_nil ?_; intro wq hw0; obtain ⟨⟨wq0, hbq⟩, hw1⟩ := hw0; subst hw1; (try dsimp only))
 have sQ := hbq.size
 have sq : g < wq.heap.size := by omega
 have oQ := oW.below hbq sW
 have bQ := bW.trans (hbq.mono (by omega))
 clear f0 f1 f2
 obtain ⟨f0, f1, f2⟩ := val_cells sq oQ
 cases b1
 ·go_wp2_with fail
  (refine wp_region_after (by kernel_rfl) (by kernel_rfl) ?_; (repeat (go_big_quiet_step ((go_at_call 30; exact calls_after (hF _))))); refine wpQuiet_nil ?_; intro wq2 hw0; obtain ⟨⟨wq0, hbq2⟩, hw1⟩ := hw0; subst hw1; (try dsimp only))
  have bQ2 := bQ.trans (hbq2.mono (by omega))
  cases b2
  ·go_wp2
   go_ret
   exact ⟨rfl, bQ2⟩
  ·go_wp2
   go_ret
   exact ⟨rfl, bQ2⟩
 ·go_wp2
  go_ret
  exact ⟨rfl, bQ⟩
def ofT (t : Int) : Value := if t = 2 then vB true else if t = 0 then vB false else vV 0 0 ⟨#[]⟩
theorem pOf_any (t : Int) (w : World) :
  Calls Tryz.prog 51 #[.int .i64 t] w fun e w' => e = .returned (ofT t) ∧ Below w.heap.size w w' := by
 unfold ofT
 have hB := fun b W => pBool_any b W
 have hN := fun W => pNull_any W
 have oB : Own (w.alloc (.cells #[.int .i64 0, .int .i64 0, .string ⟨#[]⟩] 23)) w.heap.size 23 #[.int .i64 0, .int .i64 0, .string ⟨#[]⟩] := Own.new _ _ _
 unfold vB vV at *
 by_cases h2 : t = 2
 ·subst h2
  ·rw [if_pos rfl]
   go_enter Tryz.func51, Tryz.ntmps51
   go_wp2_with fail
   refine (hB true _).mono ?_
   rintro e w1 ⟨rfl, hb1⟩
   have z1 := hb1.size
   simp only [World.size_alloc] at z1
   have o1 := oB.below hb1 (by simp only [World.size_alloc]; omega)
   have d0 := o1.cell 0; have e0 := o1.free 0; have d1 := o1.cell 1; have e1 := o1.free 1; have d2 := o1.cell 2; have e2 := o1.free 2; (try simp only [List.getElem?_toArray, List.getElem?_cons_zero, List.getElem?_cons_succ] at d0 d1 d2)
   go_wp2
   (try simp only [Exit.inBlock, Exit.then]); refine bodyPost_ret_by (results_cell_row1 (by rfl) _ _ (w.heap.size) _ (by rfl) (load_val (((o1.store 0 _).store 1 _).store 2 _))) ?_ ?_; (focus rfl); refine ⟨rfl, ?_⟩
   (repeat' first | (with_reducible first | exact Below.refl _ _ | assumption | refine Below.alloc ?_ ?_ _ | refine Below.drew ?_ | refine Below.setCell ?_ ?_ _ | refine Below.trans ?_ (Below.mono (by assumption) ?_)) | go_size)
 rw [if_neg h2]
 by_cases h0 : t = 0
 ·subst h0
  ·rw [if_pos rfl]
   go_enter Tryz.func51, Tryz.ntmps51
   go_wp2_with fail
   refine (hB false _).mono ?_
   rintro e w1 ⟨rfl, hb1⟩
   have z1 := hb1.size
   simp only [World.size_alloc] at z1
   have o1 := oB.below hb1 (by simp only [World.size_alloc]; omega)
   have d0 := o1.cell 0; have e0 := o1.free 0; have d1 := o1.cell 1; have e1 := o1.free 1; have d2 := o1.cell 2; have e2 := o1.free 2; (try simp only [List.getElem?_toArray, List.getElem?_cons_zero, List.getElem?_cons_succ] at d0 d1 d2)
   go_wp2
   (try simp only [Exit.inBlock, Exit.then]); refine bodyPost_ret_by (results_cell_row1 (by rfl) _ _ (w.heap.size) _ (by rfl) (load_val (((o1.store 0 _).store 1 _).store 2 _))) ?_ ?_; (focus rfl); refine ⟨rfl, ?_⟩
   (repeat' first | (with_reducible first | exact Below.refl _ _ | assumption | refine Below.alloc ?_ ?_ _ | refine Below.drew ?_ | refine Below.setCell ?_ ?_ _ | refine Below.trans ?_ (Below.mono (by assumption) ?_)) | go_size)
 rw [if_neg h0]
 have j2 : (t == 2) = false := by simpa using h2
 have j0 : (t == 0) = false := by simpa using h0
 ··go_enter Tryz.func51, Tryz.ntmps51
   go_wp2_with fail
   refine (hN _).mono ?_
   rintro e w1 ⟨rfl, hb1⟩
   have z1 := hb1.size
   simp only [World.size_alloc] at z1
   have o1 := oB.below hb1 (by simp only [World.size_alloc]; omega)
   have d0 := o1.cell 0; have e0 := o1.free 0; have d1 := o1.cell 1; have e1 := o1.free 1; have d2 := o1.cell 2; have e2 := o1.free 2; (try simp only [List.getElem?_toArray, List.getElem?_cons_zero, List.getElem?_cons_succ] at d0 d1 d2)
   go_wp2
   (try simp only [Exit.inBlock, Exit.then]); refine bodyPost_ret_by (results_cell_row1 (by rfl) _ _ (w.heap.size) _ (by rfl) (load_val (((o1.store 0 _).store 1 _).store 2 _))) ?_ ?_; (focus rfl); refine ⟨rfl, ?_⟩
   (repeat' first | (with_reducible first | exact Below.refl _ _ | assumption | refine Below.alloc ?_ ?_ _ | refine Below.drew ?_ | refine Below.setCell ?_ ?_ _ | refine Below.trans ?_ (Below.mono (by assumption) ?_)) | go_size)
theorem rOf_any (t : Int) (w : World) :
  Calls Tryz.prog 22 #[.int .i64 t] w fun e w' => e = .returned (ofT t) ∧ Below w.heap.size w w' := by
 unfold ofT
 have hB := fun b W => rBool_any b W
 have hN := fun W => rNull_any W
 have oB : Own (w.alloc (.cells #[.int .i64 0, .int .i64 0, .string ⟨#[]⟩] 23)) w.heap.size 23 #[.int .i64 0, .int .i64 0, .string ⟨#[]⟩] := Own.new _ _ _
 unfold vB vV at *
 by_cases h2 : t = 2
 ·subst h2
  ·rw [if_pos rfl]
   go_enter Tryz.func22, Tryz.ntmps22
   go_wp2_with fail
   refine (hB true _).mono ?_
   rintro e w1 ⟨rfl, hb1⟩
   have z1 := hb1.size
   simp only [World.size_alloc] at z1
   have o1 := oB.below hb1 (by simp only [World.size_alloc]; omega)
   have d0 := o1.cell 0; have e0 := o1.free 0; have d1 := o1.cell 1; have e1 := o1.free 1; have d2 := o1.cell 2; have e2 := o1.free 2; (try simp only [List.getElem?_toArray, List.getElem?_cons_zero, List.getElem?_cons_succ] at d0 d1 d2)
   go_wp2
   (try simp only [Exit.inBlock, Exit.then]); refine bodyPost_ret_by (results_cell_row1 (by rfl) _ _ (w.heap.size) _ (by rfl) (load_val (((o1.store 0 _).store 1 _).store 2 _))) ?_ ?_; (focus rfl); refine ⟨rfl, ?_⟩
   (repeat' first | (with_reducible first | exact Below.refl _ _ | assumption | refine Below.alloc ?_ ?_ _ | refine Below.drew ?_ | refine Below.setCell ?_ ?_ _ | refine Below.trans ?_ (Below.mono (by assumption) ?_)) | go_size)
 rw [if_neg h2]
 by_cases h0 : t = 0
 ·subst h0
  ·rw [if_pos rfl]
   go_enter Tryz.func22, Tryz.ntmps22
   go_wp2_with fail
   refine (hB false _).mono ?_
   rintro e w1 ⟨rfl, hb1⟩
   have z1 := hb1.size
   simp only [World.size_alloc] at z1
   have o1 := oB.below hb1 (by simp only [World.size_alloc]; omega)
   have d0 := o1.cell 0; have e0 := o1.free 0; have d1 := o1.cell 1; have e1 := o1.free 1; have d2 := o1.cell 2; have e2 := o1.free 2; (try simp only [List.getElem?_toArray, List.getElem?_cons_zero, List.getElem?_cons_succ] at d0 d1 d2)
   go_wp2
   (try simp only [Exit.inBlock, Exit.then]); refine bodyPost_ret_by (results_cell_row1 (by rfl) _ _ (w.heap.size) _ (by rfl) (load_val (((o1.store 0 _).store 1 _).store 2 _))) ?_ ?_; (focus rfl); refine ⟨rfl, ?_⟩
   (repeat' first | (with_reducible first | exact Below.refl _ _ | assumption | refine Below.alloc ?_ ?_ _ | refine Below.drew ?_ | refine Below.setCell ?_ ?_ _ | refine Below.trans ?_ (Below.mono (by assumption) ?_)) | go_size)
 rw [if_neg h0]
 have j2 : (t == 2) = false := by simpa using h2
 have j0 : (t == 0) = false := by simpa using h0
 ··go_enter Tryz.func22, Tryz.ntmps22
   go_wp2_with fail
   refine (hN _).mono ?_
   rintro e w1 ⟨rfl, hb1⟩
   have z1 := hb1.size
   simp only [World.size_alloc] at z1
   have o1 := oB.below hb1 (by simp only [World.size_alloc]; omega)
   have d0 := o1.cell 0; have e0 := o1.free 0; have d1 := o1.cell 1; have e1 := o1.free 1; have d2 := o1.cell 2; have e2 := o1.free 2; (try simp only [List.getElem?_toArray, List.getElem?_cons_zero, List.getElem?_cons_succ] at d0 d1 d2)
   go_wp2
   (try simp only [Exit.inBlock, Exit.then]); refine bodyPost_ret_by (results_cell_row1 (by rfl) _ _ (w.heap.size) _ (by rfl) (load_val (((o1.store 0 _).store 1 _).store 2 _))) ?_ ?_; (focus rfl); refine ⟨rfl, ?_⟩
   (repeat' first | (with_reducible first | exact Below.refl _ _ | assumption | refine Below.alloc ?_ ?_ _ | refine Below.drew ?_ | refine Below.setCell ?_ ?_ _ | refine Below.trans ?_ (Below.mono (by assumption) ?_)) | go_size)
theorem cb_spec : ∀ l m : List UInt8, Lib.compareBytes l m = if Op.bytesLess l m then -1 else if l == m then 0 else 1
 | [], [] => rfl
 | [], _ :: _ => rfl
 | _ :: _, [] => rfl
 | a :: x, b :: y => by
  unfold Lib.compareBytes Op.bytesLess
  rw [cb_spec x y]
  by_cases h1 : a < b
  ·simp [h1]
  ·by_cases h2 : b < a
   ·have hne : a ≠ b := by intro e; subst e; exact h1 h2
    have hb : (a == b) = false := by simpa using hne
    simp [h1, h2, hne]
   ·have hab : a = b := by
     have h3 : ¬ a.toNat < b.toNat := h1
     have h4 : ¬ b.toNat < a.toNat := h2
     exact UInt8.toNat_inj.1 (by omega)
    subst hab
    simp [h1]
def cmpV (k n : Int) (s : ByteArray) (k2 n2 : Int) (s2 : ByteArray) : Int :=
 if k < k2 then -1 else if k2 < k then 1 else if n < n2 then -1 else if n2 < n then 1 else Lib.compareBytes s.data.toList s2.data.toList
theorem pCompare_any (k n : Int) (s : ByteArray) (k2 n2 : Int) (s2 : ByteArray) (w : World) :
  Calls Tryz.prog 113 #[vV k n s, vV k2 n2 s2] w fun e w' => e = .returned (.int .i64 (cmpV k n s k2 n2 s2)) ∧ Below w.heap.size w w' := by
 have h1 := fun W => Tryz.cmp_Compare_int k k2 W
 have h2 := fun W => Tryz.cmp_Compare_int n n2 W
 have h3 := fun W => Tryz.strings_Compare s s2 W
 unfold cmpV
 generalize hs : Lib.compareBytes s.data.toList s2.data.toList = c3 at *
 clear hs
 unfold vV
 unfold Lib.compareInt at h1 h2
 rcases Int.lt_trichotomy k k2 with h | h | h
 ·rw [if_pos h]
  rw [if_pos h] at h1
  go_enter Tryz.func113, Tryz.ntmps113
  go_wp2_with (go_at_call 130; with_reducible refine (h1 _).mono ?_; rintro e w1 ⟨rfl, rfl⟩)
  go_ret
  refine ⟨rfl, ?_⟩
  (repeat' first | (with_reducible first | exact Below.refl _ _ | assumption | refine Below.alloc ?_ ?_ _ | refine Below.drew ?_ | refine Below.setCell ?_ ?_ _ | refine Below.trans ?_ (Below.mono (by assumption) ?_)) | go_size)
 ·subst h
  rw [if_neg (by omega), if_neg (by omega)]
  rw [if_neg (by omega), if_neg (by omega)] at h1
  rcases Int.lt_trichotomy n n2 with h | h | h
  ·rw [if_pos h]
   rw [if_pos h] at h2
   go_enter Tryz.func113, Tryz.ntmps113
   go_wp2_with (go_at_call 130; (first | with_reducible refine (h1 _).mono ?_ | with_reducible refine (h2 _).mono ?_); rintro e w1 ⟨rfl, rfl⟩)
   go_ret
   refine ⟨rfl, ?_⟩
   (repeat' first | (with_reducible first | exact Below.refl _ _ | assumption | refine Below.alloc ?_ ?_ _ | refine Below.drew ?_ | refine Below.setCell ?_ ?_ _ | refine Below.trans ?_ (Below.mono (by assumption) ?_)) | go_size)
  ·subst h
   rw [if_neg (by omega), if_neg (by omega)]
   rw [if_neg (by omega), if_neg (by omega)] at h2
   go_enter Tryz.func113, Tryz.ntmps113
   go_wp2_with (first | (go_at_call 130; (first | with_reducible refine (h1 _).mono ?_ | with_reducible refine (h2 _).mono ?_); rintro e w1 ⟨rfl, rfl⟩) | (go_at_call 131; with_reducible refine (h3 _).mono ?_; rintro e w1 ⟨rfl, rfl⟩))
   go_ret
   refine ⟨rfl, ?_⟩
   (repeat' first | (with_reducible first | exact Below.refl _ _ | assumption | refine Below.alloc ?_ ?_ _ | refine Below.drew ?_ | refine Below.setCell ?_ ?_ _ | refine Below.trans ?_ (Below.mono (by assumption) ?_)) | go_size)
  ·rw [if_neg (by omega), if_pos h]
   rw [if_neg (by omega), if_pos h] at h2
   go_enter Tryz.func113, Tryz.ntmps113
   go_wp2_with (go_at_call 130; (first | with_reducible refine (h1 _).mono ?_ | with_reducible refine (h2 _).mono ?_); rintro e w1 ⟨rfl, rfl⟩)
   go_ret
   refine ⟨rfl, ?_⟩
   (repeat' first | (with_reducible first | exact Below.refl _ _ | assumption | refine Below.alloc ?_ ?_ _ | refine Below.drew ?_ | refine Below.setCell ?_ ?_ _ | refine Below.trans ?_ (Below.mono (by assumption) ?_)) | go_size)
 ·rw [if_neg (by omega), if_pos h]
  rw [if_neg (by omega), if_pos h] at h1
  go_enter Tryz.func113, Tryz.ntmps113
  go_wp2_with (go_at_call 130; with_reducible refine (h1 _).mono ?_; rintro e w1 ⟨rfl, rfl⟩)
  go_ret
  refine ⟨rfl, ?_⟩
  (repeat' first | (with_reducible first | exact Below.refl _ _ | assumption | refine Below.alloc ?_ ?_ _ | refine Below.drew ?_ | refine Below.setCell ?_ ?_ _ | refine Below.trans ?_ (Below.mono (by assumption) ?_)) | go_size)
def sgn (a b : Bool) : Int := if a then -1 else if b then 1 else 0
theorem sign_any (a b : Bool) (w : World) : Calls Tryz.prog 127 #[.bool a, .bool b] w fun e w' => e = .returned (.int .i64 (sgn a b)) ∧ w' = w := by
 cases a <;> cases b
 all_goals
  go_enter Tryz.func127, Tryz.ntmps127
  go_wp2
  go_ret
  exact ⟨rfl, rfl⟩
theorem rCompare_any (k n : Int) (s : ByteArray) (k2 n2 : Int) (s2 : ByteArray) (w : World) :
  Calls Tryz.prog 105 #[vV k n s, vV k2 n2 s2] w fun e w' => e = .returned (.int .i64 (cmpV k n s k2 n2 s2)) ∧ Below w.heap.size w w' := by
 have hS := fun a b W => sign_any a b W
 unfold cmpV
 rw [cb_spec, ← Lib.toList_data, ← Lib.toList_data]
 unfold vV
 rcases Int.lt_trichotomy k k2 with h | h | h
 ·rw [if_pos h]
  go_enter Tryz.func105, Tryz.ntmps105
  go_wp2_with (go_at_call 127; refine (hS _ _ _).mono ?_; rintro e w1 ⟨rfl, rfl⟩)
  go_ret
  refine ⟨rfl, ?_⟩
  (repeat' first | (with_reducible first | exact Below.refl _ _ | assumption | refine Below.alloc ?_ ?_ _ | refine Below.drew ?_ | refine Below.setCell ?_ ?_ _ | refine Below.trans ?_ (Below.mono (by assumption) ?_)) | go_size)
 ·subst h
  rw [if_neg (by omega), if_neg (by omega)]
  rcases Int.lt_trichotomy n n2 with h | h | h
  ·rw [if_pos h]
   go_enter Tryz.func105, Tryz.ntmps105
   go_wp2_with (go_at_call 127; refine (hS _ _ _).mono ?_; rintro e w1 ⟨rfl, rfl⟩)
   go_ret
   refine ⟨rfl, ?_⟩
   (repeat' first | (with_reducible first | exact Below.refl _ _ | assumption | refine Below.alloc ?_ ?_ _ | refine Below.drew ?_ | refine Below.setCell ?_ ?_ _ | refine Below.trans ?_ (Below.mono (by assumption) ?_)) | go_size)
  ·subst h
   rw [if_neg (by omega), if_neg (by omega)]
   cases hl : Op.bytesLess s.toList s2.toList <;> cases he : s.toList == s2.toList
   all_goals
    go_enter Tryz.func105, Tryz.ntmps105
    go_wp2_with (go_at_call 127; refine (hS _ _ _).mono ?_; rintro e w1 ⟨rfl, rfl⟩)
    go_ret
    refine ⟨rfl, ?_⟩
    (repeat' first | (with_reducible first | exact Below.refl _ _ | assumption | refine Below.alloc ?_ ?_ _ | refine Below.drew ?_ | refine Below.setCell ?_ ?_ _ | refine Below.trans ?_ (Below.mono (by assumption) ?_)) | go_size)
  ·rw [if_neg (by omega), if_pos h]
   go_enter Tryz.func105, Tryz.ntmps105
   go_wp2_with (go_at_call 127; refine (hS _ _ _).mono ?_; rintro e w1 ⟨rfl, rfl⟩)
   go_ret
   have hd : ¬ n < n2 := by omega
   refine ⟨by simp [sgn, hd], ?_⟩
   (repeat' first | (with_reducible first | exact Below.refl _ _ | assumption | refine Below.alloc ?_ ?_ _ | refine Below.drew ?_ | refine Below.setCell ?_ ?_ _ | refine Below.trans ?_ (Below.mono (by assumption) ?_)) | go_size)
 ·rw [if_neg (by omega), if_pos h]
  go_enter Tryz.func105, Tryz.ntmps105
  go_wp2_with (go_at_call 127; refine (hS _ _ _).mono ?_; rintro e w1 ⟨rfl, rfl⟩)
  go_ret
  have hd : ¬ k < k2 := by omega
  refine ⟨by simp [sgn, hd], ?_⟩
  (repeat' first | (with_reducible first | exact Below.refl _ _ | assumption | refine Below.alloc ?_ ?_ _ | refine Below.drew ?_ | refine Below.setCell ?_ ?_ _ | refine Below.trans ?_ (Below.mono (by assumption) ?_)) | go_size)
end Go.Proofs.YtdhemhmgenhmaaaGreat.Va
namespace Go.Proofs.YtdhemhmgenhmaaaGreat.Va
open Go.RowKit
def cpbV (k k2 : Int) : Bool := k == k2 && k != 0
theorem pComparable_any (k n : Int) (s : ByteArray) (k2 n2 : Int) (s2 : ByteArray) (w : World) :
  Calls Tryz.prog 124 #[vV k n s, vV k2 n2 s2] w fun e w' => e = .returned (.bool (cpbV k k2)) ∧ Below w.heap.size w w' := by
 unfold cpbV vV
 cases h1 : k == k2 <;> cases h2 : k != 0
 all_goals
  go_enter Tryz.func124, Tryz.ntmps124
  go_wp2
  go_ret
  refine ⟨by first | rfl | simp [*], ?_⟩
  (repeat' first | (with_reducible first | exact Below.refl _ _ | assumption | refine Below.alloc ?_ ?_ _ | refine Below.drew ?_ | refine Below.setCell ?_ ?_ _ | refine Below.trans ?_ (Below.mono (by assumption) ?_)) | go_size)
def tV (c b : Bool) : Int := if c then (if b then 2 else 0) else 1
theorem rtruth_any (k n : Int) (s : ByteArray) (k2 n2 : Int) (s2 : ByteArray) (b : Bool) (w : World) :
  Calls Tryz.prog 104 #[vV k n s, vV k2 n2 s2, .bool b] w fun e w' => e = .returned (.int .i64 (tV (cpbV k k2) b)) ∧ Below w.heap.size w w' := by
 unfold tV cpbV vV
 by_cases h1 : k = 0
 ·subst h1
  have e : ((0 : Int) == k2 && (0 : Int) != 0) = false := by simp
  rw [e]
  go_enter Tryz.func104, Tryz.ntmps104
  go_wp2
  go_ret
  refine ⟨rfl, ?_⟩
  (repeat' first | (with_reducible first | exact Below.refl _ _ | assumption | refine Below.alloc ?_ ?_ _ | refine Below.drew ?_ | refine Below.setCell ?_ ?_ _ | refine Below.trans ?_ (Below.mono (by assumption) ?_)) | go_size)
 ·have j1 : (k == 0) = false := by simpa using h1
  have j2 : (k != 0) = true := by simpa using h1
  rw [j2, Bool.and_true]
  cases h2 : k == k2 <;> cases b
  all_goals
   go_enter Tryz.func104, Tryz.ntmps104
   go_wp2
   go_ret
   refine ⟨by first | rfl | simp [*], ?_⟩
   (repeat' first | (with_reducible first | exact Below.refl _ _ | assumption | refine Below.alloc ?_ ?_ _ | refine Below.drew ?_ | refine Below.setCell ?_ ?_ _ | refine Below.trans ?_ (Below.mono (by assumption) ?_)) | go_size)
def eqlV (k n : Int) (s : ByteArray) (k2 n2 : Int) (s2 : ByteArray) : Int := tV (cpbV k k2) (decide (cmpV k n s k2 n2 s2 = 0))
def lesV (k n : Int) (s : ByteArray) (k2 n2 : Int) (s2 : ByteArray) : Int := tV (cpbV k k2) (decide (cmpV k n s k2 n2 s2 < 0))
theorem pEqual_any (k n : Int) (s : ByteArray) (k2 n2 : Int) (s2 : ByteArray) (w : World) :
  Calls Tryz.prog 98 #[vV k n s, vV k2 n2 s2] w fun e w' => e = .returned (.int .i64 (eqlV k n s k2 n2 s2)) ∧ Below w.heap.size w w' := by
 unfold eqlV
 have hC := fun W => pComparable_any k n s k2 n2 s2 W
 have hM := fun W => pCompare_any k n s k2 n2 s2 W
 have hT := fun b W => truthOf_any b W
 generalize cpbV k k2 = c at *
 generalize cmpV k n s k2 n2 s2 = m at *
 unfold vV at *
 have oA : Own ((w.alloc (.cells #[.int .i64 k, .int .i64 n, .string s] 23)).alloc (.cells #[.int .i64 k2, .int .i64 n2, .string s2] 23)) w.heap.size 23 #[.int .i64 k, .int .i64 n, .string s] := (Own.new _ _ _).alloc _
 have oB : Own ((w.alloc (.cells #[.int .i64 k, .int .i64 n, .string s] 23)).alloc (.cells #[.int .i64 k2, .int .i64 n2, .string s2] 23)) (w.heap.size + 1) 23 #[.int .i64 k2, .int .i64 n2, .string s2] := own_two _
 cases c
 ·go_enter Tryz.func98, Tryz.ntmps98
  go_wp2_with fail
  refine (hC _).mono ?_
  rintro e w1 ⟨rfl, hb1⟩
  go_wp2
  go_ret
  refine ⟨rfl, ?_⟩
  (repeat' first | (with_reducible first | exact Below.refl _ _ | assumption | refine Below.alloc ?_ ?_ _ | refine Below.drew ?_ | refine Below.setCell ?_ ?_ _ | refine Below.trans ?_ (Below.mono (by assumption) ?_)) | go_size)
 ·go_enter Tryz.func98, Tryz.ntmps98
  go_wp2_with fail
  refine (hC _).mono ?_
  rintro e w1 ⟨rfl, hb1⟩
  have z1 := hb1.size
  simp only [World.size_alloc] at z1
  have a1 := oA.below hb1 (by simp only [World.size_alloc]; omega)
  have b1 := oB.below hb1 (by simp only [World.size_alloc]; omega)
  have d0a := a1.cell 0; have e0a := a1.free 0; have d1a := a1.cell 1; have e1a := a1.free 1; have d2a := a1.cell 2; have e2a := a1.free 2; (try simp only [List.getElem?_toArray, List.getElem?_cons_zero, List.getElem?_cons_succ] at d0a d1a d2a)
  have d0b := b1.cell 0; have e0b := b1.free 0; have d1b := b1.cell 1; have e1b := b1.free 1; have d2b := b1.cell 2; have e2b := b1.free 2; (try simp only [List.getElem?_toArray, List.getElem?_cons_zero, List.getElem?_cons_succ] at d0b d1b d2b)
  go_wp2_with fail
  refine (hM _).mono ?_
  rintro e w2 ⟨rfl, hb2⟩
  by_cases hm : m = 0
  all_goals
   go_wp2_with fail
   refine (hT _ _).mono ?_
   rintro e w3 ⟨rfl, rfl⟩
   go_wp2
   go_ret
   refine ⟨by first | rfl | simp [tV, *], ?_⟩
   (repeat' first | (with_reducible first | exact Below.refl _ _ | assumption | refine Below.alloc ?_ ?_ _ | refine Below.drew ?_ | refine Below.setCell ?_ ?_ _ | refine Below.trans ?_ (Below.mono (by assumption) ?_)) | go_size)
theorem pLess_any (k n : Int) (s : ByteArray) (k2 n2 : Int) (s2 : ByteArray) (w : World) :
  Calls Tryz.prog 99 #[vV k n s, vV k2 n2 s2] w fun e w' => e = .returned (.int .i64 (lesV k n s k2 n2 s2)) ∧ Below w.heap.size w w' := by
 unfold lesV
 have hC := fun W => pComparable_any k n s k2 n2 s2 W
 have hM := fun W => pCompare_any k n s k2 n2 s2 W
 have hT := fun b W => truthOf_any b W
 generalize cpbV k k2 = c at *
 generalize cmpV k n s k2 n2 s2 = m at *
 unfold vV at *
 have oA : Own ((w.alloc (.cells #[.int .i64 k, .int .i64 n, .string s] 23)).alloc (.cells #[.int .i64 k2, .int .i64 n2, .string s2] 23)) w.heap.size 23 #[.int .i64 k, .int .i64 n, .string s] := (Own.new _ _ _).alloc _
 have oB : Own ((w.alloc (.cells #[.int .i64 k, .int .i64 n, .string s] 23)).alloc (.cells #[.int .i64 k2, .int .i64 n2, .string s2] 23)) (w.heap.size + 1) 23 #[.int .i64 k2, .int .i64 n2, .string s2] := own_two _
 cases c
 ·go_enter Tryz.func99, Tryz.ntmps99
  go_wp2_with fail
  refine (hC _).mono ?_
  rintro e w1 ⟨rfl, hb1⟩
  go_wp2
  go_ret
  refine ⟨rfl, ?_⟩
  (repeat' first | (with_reducible first | exact Below.refl _ _ | assumption | refine Below.alloc ?_ ?_ _ | refine Below.drew ?_ | refine Below.setCell ?_ ?_ _ | refine Below.trans ?_ (Below.mono (by assumption) ?_)) | go_size)
 ·go_enter Tryz.func99, Tryz.ntmps99
  go_wp2_with fail
  refine (hC _).mono ?_
  rintro e w1 ⟨rfl, hb1⟩
  have z1 := hb1.size
  simp only [World.size_alloc] at z1
  have a1 := oA.below hb1 (by simp only [World.size_alloc]; omega)
  have b1 := oB.below hb1 (by simp only [World.size_alloc]; omega)
  have d0a := a1.cell 0; have e0a := a1.free 0; have d1a := a1.cell 1; have e1a := a1.free 1; have d2a := a1.cell 2; have e2a := a1.free 2; (try simp only [List.getElem?_toArray, List.getElem?_cons_zero, List.getElem?_cons_succ] at d0a d1a d2a)
  have d0b := b1.cell 0; have e0b := b1.free 0; have d1b := b1.cell 1; have e1b := b1.free 1; have d2b := b1.cell 2; have e2b := b1.free 2; (try simp only [List.getElem?_toArray, List.getElem?_cons_zero, List.getElem?_cons_succ] at d0b d1b d2b)
  go_wp2_with fail
  refine (hM _).mono ?_
  rintro e w2 ⟨rfl, hb2⟩
  by_cases hm : m < 0
  all_goals
   go_wp2_with fail
   refine (hT _ _).mono ?_
   rintro e w3 ⟨rfl, rfl⟩
   go_wp2
   go_ret
   refine ⟨by first | rfl | simp [tV, *], ?_⟩
   (repeat' first | (with_reducible first | exact Below.refl _ _ | assumption | refine Below.alloc ?_ ?_ _ | refine Below.drew ?_ | refine Below.setCell ?_ ?_ _ | refine Below.trans ?_ (Below.mono (by assumption) ?_)) | go_size)
theorem rEqual_any (k n : Int) (s : ByteArray) (k2 n2 : Int) (s2 : ByteArray) (w : World) :
  Calls Tryz.prog 70 #[vV k n s, vV k2 n2 s2] w fun e w' => e = .returned (.int .i64 (eqlV k n s k2 n2 s2)) ∧ Below w.heap.size w w' := by
 unfold eqlV
 have hM := fun W => rCompare_any k n s k2 n2 s2 W
 have hT := fun b W => rtruth_any k n s k2 n2 s2 b W
 generalize cmpV k n s k2 n2 s2 = m at *
 unfold vV at *
 have bW := ((Below.refl w.heap.size w).alloc (Nat.le_refl _) (.cells #[.int .i64 k, .int .i64 n, .string s] 23)).alloc (by simp) (.cells #[.int .i64 k2, .int .i64 n2, .string s2] 23)
 have oA : Own ((w.alloc (.cells #[.int .i64 k, .int .i64 n, .string s] 23)).alloc (.cells #[.int .i64 k2, .int .i64 n2, .string s2] 23)) w.heap.size 23 #[.int .i64 k, .int .i64 n, .string s] := (Own.new _ _ _).alloc _
 have oB : Own ((w.alloc (.cells #[.int .i64 k, .int .i64 n, .string s] 23)).alloc (.cells #[.int .i64 k2, .int .i64 n2, .string s2] 23)) (w.heap.size + 1) 23 #[.int .i64 k2, .int .i64 n2, .string s2] := own_two _
 go_enter Tryz.func70, Tryz.ntmps70
 go_wp2_with fail
 have sA := oA.lt
 have sB := oB.lt
 have hz : w.heap.size ≤ ((w.alloc (.cells #[.int .i64 k, .int .i64 n, .string s] 23)).alloc (.cells #[.int .i64 k2, .int .i64 n2, .string s2] 23)).heap.size := by simp only [World.size_alloc]; omega
 generalize (w.alloc (.cells #[.int .i64 k, .int .i64 n, .string s] 23)).alloc (.cells #[.int .i64 k2, .int .i64 n2, .string s2] 23) = W at *
 obtain ⟨f0, f1, f2⟩ := val_cells sA oA
 obtain ⟨g0, g1, g2⟩ := val_cells sB oB
 by_cases hm : m = 0
 ·have HD : Hid (decide (m = 0) = true) := Lib.hid (decide_eq_true hm)
  (refine wp_region_after (by kernel_rfl) (by kernel_rfl) ?_; (repeat (go_big_quiet_step ((first | (go_at_call 105; exact calls_after (hM _)) | (go_at_call 104; exact calls_after (hT _ _)))))); refine wpQuiet_nil ?_; intro wq hw0; obtain ⟨⟨wq0, hbq⟩, hw1⟩ := hw0; subst hw1; (try dsimp only))
  go_wp2
  go_ret
  exact ⟨by first | (rw [HD.out]; done) | (rw [HD.out]; rfl) | rfl | simp [HD.out], bW.trans (hbq.mono hz)⟩
 ·have HD : Hid (decide (m = 0) = false) := Lib.hid (decide_eq_false hm)
  (refine wp_region_after (by kernel_rfl) (by kernel_rfl) ?_; (repeat (go_big_quiet_step ((first | (go_at_call 105; exact calls_after (hM _)) | (go_at_call 104; exact calls_after (hT _ _)))))); refine wpQuiet_nil ?_; intro wq hw0; obtain ⟨⟨wq0, hbq⟩, hw1⟩ := hw0; subst hw1; (try dsimp only))
  go_wp2
  go_ret
  exact ⟨by first | (rw [HD.out]; done) | (rw [HD.out]; rfl) | rfl | simp [HD.out], bW.trans (hbq.mono hz)⟩
theorem rLess_any (k n : Int) (s : ByteArray) (k2 n2 : Int) (s2 : ByteArray) (w : World) :
  Calls Tryz.prog 71 #[vV k n s, vV k2 n2 s2] w fun e w' => e = .returned (.int .i64 (lesV k n s k2 n2 s2)) ∧ Below w.heap.size w w' := by
 unfold lesV
 have hM := fun W => rCompare_any k n s k2 n2 s2 W
 have hT := fun b W => rtruth_any k n s k2 n2 s2 b W
 generalize cmpV k n s k2 n2 s2 = m at *
 unfold vV at *
 have bW := ((Below.refl w.heap.size w).alloc (Nat.le_refl _) (.cells #[.int .i64 k, .int .i64 n, .string s] 23)).alloc (by simp) (.cells #[.int .i64 k2, .int .i64 n2, .string s2] 23)
 have oA : Own ((w.alloc (.cells #[.int .i64 k, .int .i64 n, .string s] 23)).alloc (.cells #[.int .i64 k2, .int .i64 n2, .string s2] 23)) w.heap.size 23 #[.int .i64 k, .int .i64 n, .string s] := (Own.new _ _ _).alloc _
 have oB : Own ((w.alloc (.cells #[.int .i64 k, .int .i64 n, .string s] 23)).alloc (.cells #[.int .i64 k2, .int .i64 n2, .string s2] 23)) (w.heap.size + 1) 23 #[.int .i64 k2, .int .i64 n2, .string s2] := own_two _
 go_enter Tryz.func71, Tryz.ntmps71
 go_wp2_with fail
 have sA := oA.lt
 have sB := oB.lt
 have hz : w.heap.size ≤ ((w.alloc (.cells #[.int .i64 k, .int .i64 n, .string s] 23)).alloc (.cells #[.int .i64 k2, .int .i64 n2, .string s2] 23)).heap.size := by simp only [World.size_alloc]; omega
 generalize (w.alloc (.cells #[.int .i64 k, .int .i64 n, .string s] 23)).alloc (.cells #[.int .i64 k2, .int .i64 n2, .string s2] 23) = W at *
 obtain ⟨f0, f1, f2⟩ := val_cells sA oA
 obtain ⟨g0, g1, g2⟩ := val_cells sB oB
 by_cases hm : m < 0
 ·have HD : Hid (decide (m < 0) = true) := Lib.hid (decide_eq_true hm)
  (refine wp_region_after (by kernel_rfl) (by kernel_rfl) ?_; (repeat (go_big_quiet_step ((first | (go_at_call 105; exact calls_after (hM _)) | (go_at_call 104; exact calls_after (hT _ _)))))); refine wpQuiet_nil ?_; intro wq hw0; obtain ⟨⟨wq0, hbq⟩, hw1⟩ := hw0; subst hw1; (try dsimp only))
  go_wp2
  go_ret
  exact ⟨by first | (rw [HD.out]; done) | (rw [HD.out]; rfl) | rfl | simp [HD.out], bW.trans (hbq.mono hz)⟩
 ·have HD : Hid (decide (m < 0) = false) := Lib.hid (decide_eq_false hm)
  (refine wp_region_after (by kernel_rfl) (by kernel_rfl) ?_; (repeat (go_big_quiet_step ((first | (go_at_call 105; exact calls_after (hM _)) | (go_at_call 104; exact calls_after (hT _ _)))))); refine wpQuiet_nil ?_; intro wq hw0; obtain ⟨⟨wq0, hbq⟩, hw1⟩ := hw0; subst hw1; (try dsimp only))
  go_wp2
  go_ret
  exact ⟨by first | (rw [HD.out]; done) | (rw [HD.out]; rfl) | rfl | simp [HD.out], bW.trans (hbq.mono hz)⟩
end Go.Proofs.YtdhemhmgenhmaaaGreat.Va
