import Derived.Test.YteihjneeiojgaaaMVC
import Derived.WalkKit
import Derived.WalkSpells
import Derived.WalkLawsBesides
import Derived.Deep.QuietTactic
import Derived.BigQuiet
import Derived.Handy
import Derived.Lib.Hide
import Derived.Test.YteihjneeiojgaaaMA
import Derived.Laws.StructEq
/-
  Values: constructors, comparisons, truth: what each function answers, in every world. Conditions: none.
-/
namespace Go.Proofs.Yteihjneeiojgaaa.Va
set_option maxRecDepth 100000
set_option linter.unusedVariables false
set_option linter.unusedSimpArgs false
open Go.RowKit

/-- v, or the null if it is not valid. -/
def nrm (k n : Int) (s : ByteArray) : Value := if vldV k n s then vV k n s else vV 0 0 ⟨#[]⟩
set_option maxRecDepth 100000 in
set_option maxHeartbeats 1600000 in
theorem rNorm_any (k n : Int) (s : ByteArray) (w : World) : Calls Try.prog 21 #[vV k n s] w fun e w' => e = .returned (nrm k n s) ∧ Below w.heap.size w w' := by
  have hV := fun W => rValid_any k n s W
  have hN := fun W => rNull_any W
  unfold nrm
  unfold vV at *
  have oB : Own ((w.alloc (.cells #[.int .i64 k, .int .i64 n, .string s] 38)).alloc (.cells #[.int .i64 0, .int .i64 0, .string ⟨#[]⟩] 38)) (w.heap.size + 1) 38 #[.int .i64 0, .int .i64 0, .string ⟨#[]⟩] := own_two _
  have oA : Own ((w.alloc (.cells #[.int .i64 k, .int .i64 n, .string s] 38)).alloc (.cells #[.int .i64 0, .int .i64 0, .string ⟨#[]⟩] 38)) w.heap.size 38 #[.int .i64 k, .int .i64 n, .string s] := (Own.new _ _ _).alloc _
  cases hv : vldV k n s
  · rw [if_neg (by simp)]
    rw [hv] at hV
    go_enter Try.func21, Try.ntmps21
    go_wp2_with fail
    refine (hV _).mono ?_
    rintro e w1 ⟨rfl, hb1⟩
    have z1 := hb1.size
    simp only [World.size_alloc] at z1
    have o1 := oB.below hb1 (by simp only [World.size_alloc]; omega)
    go_wp2_with fail
    refine (hN _).mono ?_
    rintro e w2 ⟨rfl, hb2⟩
    have z2 := hb2.size
    have o2 := o1.below hb2 (by omega)
    have d0 := o2.cell 0; have e0 := o2.free 0; have d1 := o2.cell 1; have e1 := o2.free 1; have d2 := o2.cell 2; have e2 := o2.free 2; (try simp only [List.getElem?_toArray, List.getElem?_cons_zero, List.getElem?_cons_succ] at d0 d1 d2)
    go_wp2
    (try simp only [Exit.inBlock, Exit.then]); refine bodyPost_ret_by (results_cell_row1 (by rfl) _ _ (w.heap.size + 1) _ (by rfl) (load_val (((o2.store 0 _).store 1 _).store 2 _))) ?_ ?_; (focus rfl); refine ⟨rfl, ?_⟩
    (repeat' (first | (with_reducible exact Below.refl _ _) | (with_reducible assumption) | (with_reducible refine Below.alloc ?_ ?_ _) | (with_reducible refine Below.drew ?_) | (with_reducible refine Below.setCell ?_ ?_ _) | (with_reducible refine Below.trans ?_ (Below.mono (by assumption) ?_)) | go_size))
  · rw [if_pos rfl]
    rw [hv] at hV
    go_enter Try.func21, Try.ntmps21
    go_wp2_with fail
    refine (hV _).mono ?_
    rintro e w1 ⟨rfl, hb1⟩
    have z1 := hb1.size
    simp only [World.size_alloc] at z1
    have o1 := oB.below hb1 (by simp only [World.size_alloc]; omega)
    have a1 := oA.below hb1 (by simp only [World.size_alloc]; omega)
    have d0 := o1.cell 0; have e0 := o1.free 0; have d1 := o1.cell 1; have e1 := o1.free 1; have d2 := o1.cell 2; have e2 := o1.free 2; (try simp only [List.getElem?_toArray, List.getElem?_cons_zero, List.getElem?_cons_succ] at d0 d1 d2)
    have d0a := a1.cell 0; have e0a := a1.free 0; have d1a := a1.cell 1; have e1a := a1.free 1; have d2a := a1.cell 2; have e2a := a1.free 2; (try simp only [List.getElem?_toArray, List.getElem?_cons_zero, List.getElem?_cons_succ] at d0a d1a d2a)
    go_wp2
    (try simp only [Exit.inBlock, Exit.then]); refine bodyPost_ret_by (results_cell_row1 (by rfl) _ _ (w.heap.size + 1) _ (by rfl) (load_val (((o1.store 0 _).store 1 _).store 2 _))) ?_ ?_; (focus rfl); refine ⟨rfl, ?_⟩
    (repeat' (first | (with_reducible exact Below.refl _ _) | (with_reducible assumption) | (with_reducible refine Below.alloc ?_ ?_ _) | (with_reducible refine Below.drew ?_) | (with_reducible refine Below.setCell ?_ ?_ _) | (with_reducible refine Below.trans ?_ (Below.mono (by assumption) ?_)) | go_size))
set_option maxRecDepth 100000 in
set_option maxHeartbeats 800000 in
theorem rInt_any (n : Int) (w : World) : Calls Try.prog 11 #[.int .i64 n] w fun e w' => e = .returned (nrm 1 n ⟨#[]⟩) ∧ Below w.heap.size w w' := by
  have hO := fun W => rNorm_any 1 n ⟨#[]⟩ W
  have oB : Own (w.alloc (.cells #[.int .i64 0, .int .i64 0, .string ⟨#[]⟩] 38)) w.heap.size 38 #[.int .i64 0, .int .i64 0, .string ⟨#[]⟩] := Own.new _ _ _
  unfold nrm at *
  cases hv : vldV 1 n ⟨#[]⟩
  all_goals
    rw [hv] at hO
    simp only [if_true, Bool.false_eq_true, if_false] at hO ⊢
    unfold vV at *
    go_enter Try.func11, Try.ntmps11
    go_wp2_with fail
    refine (hO _).mono ?_
    rintro e w1 ⟨rfl, hb1⟩
    have z1 := hb1.size
    simp only [World.size_alloc] at z1
    have o1 := oB.below hb1 (by simp only [World.size_alloc]; omega)
    have d0 := o1.cell 0; have e0 := o1.free 0; have d1 := o1.cell 1; have e1 := o1.free 1; have d2 := o1.cell 2; have e2 := o1.free 2; (try simp only [List.getElem?_toArray, List.getElem?_cons_zero, List.getElem?_cons_succ] at d0 d1 d2)
    go_wp2
    (try simp only [Exit.inBlock, Exit.then]); refine bodyPost_ret_by (results_cell_row1 (by rfl) _ _ (w.heap.size) _ (by rfl) (load_val (((o1.store 0 _).store 1 _).store 2 _))) ?_ ?_; (focus rfl); refine ⟨rfl, ?_⟩
    (repeat' (first | (with_reducible exact Below.refl _ _) | (with_reducible assumption) | (with_reducible refine Below.alloc ?_ ?_ _) | (with_reducible refine Below.drew ?_) | (with_reducible refine Below.setCell ?_ ?_ _) | (with_reducible refine Below.trans ?_ (Below.mono (by assumption) ?_)) | go_size))
end Go.Proofs.Yteihjneeiojgaaa.Va
/-
  Values: comparison, equality, order, truth: what each function answers, in every world. Conditions: none.
-/
namespace Go.Proofs.Yteihjneeiojgaaa.Va
set_option maxRecDepth 100000
set_option linter.unusedVariables false
set_option linter.unusedSimpArgs false
open Go.RowKit

theorem val_cells {W : World} {g : Nat} {x y z : Value} (hg : g < W.heap.size) (o : Own W g 38 #[x, y, z]) : (∀ p : After W, p.w.cell? ⟨g, 0, none⟩ = some x) ∧ (∀ p : After W, p.w.cell? ⟨g, 1, none⟩ = some y) ∧ (∀ p : After W, p.w.cell? ⟨g, 2, none⟩ = some z) :=
  ⟨after_cell hg (o.cell 0), after_cell hg (o.cell 1), after_cell hg (o.cell 2)⟩
/-- Comparison of two values. -/
def eqV (k n : Int) (s : ByteArray) (k2 n2 : Int) (s2 : ByteArray) : Bool := k == k2 && (n == n2 && s.toList == s2.toList)
theorem eql_val (k n : Int) (s : ByteArray) (k2 n2 : Int) (s2 : ByteArray) (w : World) : (binOp .eql 38 (.agg #[.int .i64 k, .int .i64 n, .string s]) (.agg #[.int .i64 k2, .int .i64 n2, .string s2])).run Try.prog w = .ok (.bool (eqV k n s k2 n2 s2)) w := by
  rw [run_eql_struct, run_equalIn_struct w 9999 38 _ _ (by kernel_rfl) (by kernel_rfl)]
  simp [Program.fieldsOf, Op.eqFields, Try.underlying38, Try.underlying3, Try.underlying9, part, isAgg, go_sem]
  unfold eqV
  by_cases h1 : k = k2 <;> by_cases h2 : n = n2 <;> by_cases h3 : s.toList = s2.toList <;> simp [h1, h2, h3]
theorem neq_val (k n : Int) (s : ByteArray) (k2 n2 : Int) (s2 : ByteArray) (w : World) : (binOp .neq 38 (.agg #[.int .i64 k, .int .i64 n, .string s]) (.agg #[.int .i64 k2, .int .i64 n2, .string s2])).run Try.prog w = .ok (.bool (!eqV k n s k2 n2 s2)) w := by
  rw [run_neq_struct, run_equalIn_struct w 9999 38 _ _ (by kernel_rfl) (by kernel_rfl)]
  simp [Program.fieldsOf, Op.eqFields, Try.underlying38, Try.underlying3, Try.underlying9, part, isAgg, go_sem]
  unfold eqV
  by_cases h1 : k = k2 <;> by_cases h2 : n = n2 <;> by_cases h3 : s.toList = s2.toList <;> simp [h1, h2, h3]
/-- The truth value of a value. -/
def truV (k n : Int) (s : ByteArray) : Int := if eqV k n s 3 1 ⟨#[]⟩ then 2 else if eqV k n s 3 0 ⟨#[]⟩ then 0 else 1
/-- The value of a truth value. -/
def ofT (t : Int) : Value := if t = 2 then vB true else if t = 0 then vB false else vV 0 0 ⟨#[]⟩
/-! ### the order -/
theorem cb_spec : ∀ l m : List UInt8, Lib.compareBytes l m = if Op.bytesLess l m then -1 else if l == m then 0 else 1
  | [], [] => rfl
  | [], _ :: _ => rfl
  | _ :: _, [] => rfl
  | a :: x, b :: y => by
    unfold Lib.compareBytes Op.bytesLess
    rw [cb_spec x y]
    by_cases h1 : a < b
    · simp [h1]
    · by_cases h2 : b < a
      · have hne : a ≠ b := by intro e; subst e; exact h1 h2
        have hb : (a == b) = false := by simpa using hne
        simp [h1, h2, hne]
      · have hab : a = b := by
          have h3 : ¬ a.toNat < b.toNat := h1
          have h4 : ¬ b.toNat < a.toNat := h2
          exact UInt8.toNat_inj.1 (by omega)
        subst hab
        simp [h1]
/-- The order of values. -/
def cmpV (k n : Int) (s : ByteArray) (k2 n2 : Int) (s2 : ByteArray) : Int :=
  if k < k2 then -1 else if k2 < k then 1 else if n < n2 then -1 else if n2 < n then 1 else Lib.compareBytes s.data.toList s2.data.toList
def sgn (a b : Bool) : Int := if a then -1 else if b then 1 else 0
end Go.Proofs.Yteihjneeiojgaaa.Va
/-
  Values: equality and order as truth values: what each function answers, in every world. Conditions: none.
-/
namespace Go.Proofs.Yteihjneeiojgaaa.Va
set_option maxRecDepth 100000
set_option linter.unusedVariables false
set_option linter.unusedSimpArgs false
open Go.RowKit

def cpbV (k k2 : Int) : Bool := k == k2 && k != 0
def tV (c b : Bool) : Int := if c then (if b then 2 else 0) else 1
def eqlV (k n : Int) (s : ByteArray) (k2 n2 : Int) (s2 : ByteArray) : Int := tV (cpbV k k2) (decide (cmpV k n s k2 n2 s2 = 0))
def lesV (k n : Int) (s : ByteArray) (k2 n2 : Int) (s2 : ByteArray) : Int := tV (cpbV k k2) (decide (cmpV k n s k2 n2 s2 < 0))
end Go.Proofs.Yteihjneeiojgaaa.Va
