/-
  Values: comparison, equality, order, truth: what each function answers, in every world. Conditions: none.
-/
import Derived.Test.YthjnkekkjjcnfaaGreatDoorVaD
import Derived.Test.YthjnkekkjjcnfaaGreatDoorQui
import Derived.Laws.StructEq
import Derived.WalkKit
import Derived.WalkSpells
import Derived.WalkLawsBesides
import Derived.Deep.QuietTactic
import Derived.BigQuiet
import Derived.Handy
import Derived.Lib.Hide
namespace Go.Proofs.YthjnkekkjjcnfaaGreatDoor
open Go.RowKit

theorem val_cells {W : World} {g : Nat} {x y z : Value} (hg : g < W.heap.size) (o : Own W g 23 #[x, y, z]) : (∀ p : After W, p.w.cell? ⟨g, 0, none⟩ = some x) ∧ (∀ p : After W, p.w.cell? ⟨g, 1, none⟩ = some y) ∧ (∀ p : After W, p.w.cell? ⟨g, 2, none⟩ = some z) :=
  ⟨after_cell hg (o.cell 0), after_cell hg (o.cell 1), after_cell hg (o.cell 2)⟩
/-- Comparison of two values. -/
def eqV (k n : Int) (s : ByteArray) (k2 n2 : Int) (s2 : ByteArray) : Bool := k == k2 && (n == n2 && s.toList == s2.toList)
theorem eql_val (k n : Int) (s : ByteArray) (k2 n2 : Int) (s2 : ByteArray) (w : World) : (binOp .eql 23 (.agg #[.int .i64 k, .int .i64 n, .string s]) (.agg #[.int .i64 k2, .int .i64 n2, .string s2])).run Tryz.prog w = .ok (.bool (eqV k n s k2 n2 s2)) w := by
  rw [run_eql_struct, run_equalIn_struct w 9999 23 _ _ (by kernel_rfl) (by kernel_rfl)]
  simp [Program.fieldsOf, Op.eqFields, Tryz.underlying23, Tryz.underlying3, Tryz.underlying9, part, isAgg, go_sem]
  unfold eqV
  by_cases h1 : k = k2 <;> by_cases h2 : n = n2 <;> by_cases h3 : s.toList = s2.toList <;> simp [h1, h2, h3]
theorem neq_val (k n : Int) (s : ByteArray) (k2 n2 : Int) (s2 : ByteArray) (w : World) : (binOp .neq 23 (.agg #[.int .i64 k, .int .i64 n, .string s]) (.agg #[.int .i64 k2, .int .i64 n2, .string s2])).run Tryz.prog w = .ok (.bool (!eqV k n s k2 n2 s2)) w := by
  rw [run_neq_struct, run_equalIn_struct w 9999 23 _ _ (by kernel_rfl) (by kernel_rfl)]
  simp [Program.fieldsOf, Op.eqFields, Tryz.underlying23, Tryz.underlying3, Tryz.underlying9, part, isAgg, go_sem]
  unfold eqV
  by_cases h1 : k = k2 <;> by_cases h2 : n = n2 <;> by_cases h3 : s.toList = s2.toList <;> simp [h1, h2, h3]
/-- The truth value of a value. -/
def truV (k n : Int) (s : ByteArray) : Int := if eqV k n s 3 1 ⟨#[]⟩ then 2 else if eqV k n s 3 0 ⟨#[]⟩ then 0 else 1
set_option maxRecDepth 100000 in
set_option maxHeartbeats 1600000 in
theorem pTruth_any (k n : Int) (s : ByteArray) (w : World) :
    Calls Tryz.prog 33 #[vV k n s] w fun e w' => e = .returned (.int .i64 (truV k n s)) ∧ Below w.heap.size w w' := by
  unfold vV truV
  have hB := fun b W => pBool_any b W
  have bW := (Below.refl w.heap.size w).alloc (Nat.le_refl _) (.cells #[.int .i64 k, .int .i64 n, .string s] 23)
  have oW := Own.new w 23 #[.int .i64 k, .int .i64 n, .string s]
  have sW : w.heap.size < (w.alloc (.cells #[.int .i64 k, .int .i64 n, .string s] 23)).heap.size := by simp
  have hT : ∀ W, Calls Tryz.prog 18 #[.bool true] W fun e w' => e = .returned (.agg #[.int .i64 3, .int .i64 1, .string ⟨#[]⟩]) ∧ Below W.heap.size W w' := fun W => hB true W
  have hF : ∀ W, Calls Tryz.prog 18 #[.bool false] W fun e w' => e = .returned (.agg #[.int .i64 3, .int .i64 0, .string ⟨#[]⟩]) ∧ Below W.heap.size W w' := fun W => hB false W
  have q1 := fun W => eql_val k n s 3 1 ⟨#[]⟩ W
  have q2 := fun W => eql_val k n s 3 0 ⟨#[]⟩ W
  clear hB
  generalize eqV k n s 3 1 ⟨#[]⟩ = b1 at *
  generalize eqV k n s 3 0 ⟨#[]⟩ = b2 at *
  go_enter Tryz.func33, Tryz.ntmps33
  go_wp2_with fail
  have bB := Nat.le_refl w.heap.size
  generalize w.alloc (.cells #[.int .i64 k, .int .i64 n, .string s] 23) = W at *
  generalize hg : w.heap.size = g at *
  obtain ⟨f0, f1, f2⟩ := val_cells sW oW
  (refine wp_region_after (by kernel_rfl) (by kernel_rfl) ?_; (repeat (go_big_quiet_step ((go_at_call 18; exact calls_after (hT _))))); refine wpQuiet_nil ?_; intro wq hw0; obtain ⟨⟨wq0, hbq⟩, hw1⟩ := hw0; subst hw1; (try dsimp only))
  have sQ := hbq.size
  have sq : g < wq.heap.size := by omega
  have oQ := oW.below hbq sW
  have bQ := bW.trans (hbq.mono (by omega))
  clear f0 f1 f2
  obtain ⟨f0, f1, f2⟩ := val_cells sq oQ
  cases b1
  · go_wp2_with fail
    (refine wp_region_after (by kernel_rfl) (by kernel_rfl) ?_; (repeat (go_big_quiet_step ((go_at_call 18; exact calls_after (hF _))))); refine wpQuiet_nil ?_; intro wq2 hw0; obtain ⟨⟨wq0, hbq2⟩, hw1⟩ := hw0; subst hw1; (try dsimp only))
    have bQ2 := bQ.trans (hbq2.mono (by omega))
    cases b2
    · go_wp2
      go_ret
      exact ⟨rfl, bQ2⟩
    · go_wp2
      go_ret
      exact ⟨rfl, bQ2⟩
  · go_wp2
    go_ret
    exact ⟨rfl, bQ⟩
set_option maxRecDepth 100000 in
set_option maxHeartbeats 1600000 in
theorem rTruth_any (k n : Int) (s : ByteArray) (w : World) :
    Calls Tryz.prog 34 #[vV k n s] w fun e w' => e = .returned (.int .i64 (truV k n s)) ∧ Below w.heap.size w w' := by
  unfold vV truV
  have hB := fun b W => rBool_any b W
  have bW := (Below.refl w.heap.size w).alloc (Nat.le_refl _) (.cells #[.int .i64 k, .int .i64 n, .string s] 23)
  have oW := Own.new w 23 #[.int .i64 k, .int .i64 n, .string s]
  have sW : w.heap.size < (w.alloc (.cells #[.int .i64 k, .int .i64 n, .string s] 23)).heap.size := by simp
  have hT : ∀ W, Calls Tryz.prog 19 #[.bool true] W fun e w' => e = .returned (.agg #[.int .i64 3, .int .i64 1, .string ⟨#[]⟩]) ∧ Below W.heap.size W w' := fun W => hB true W
  have hF : ∀ W, Calls Tryz.prog 19 #[.bool false] W fun e w' => e = .returned (.agg #[.int .i64 3, .int .i64 0, .string ⟨#[]⟩]) ∧ Below W.heap.size W w' := fun W => hB false W
  have q1 := fun W => eql_val k n s 3 1 ⟨#[]⟩ W
  have q2 := fun W => eql_val k n s 3 0 ⟨#[]⟩ W
  clear hB
  generalize eqV k n s 3 1 ⟨#[]⟩ = b1 at *
  generalize eqV k n s 3 0 ⟨#[]⟩ = b2 at *
  go_enter Tryz.func34, Tryz.ntmps34
  go_wp2_with fail
  have bB := Nat.le_refl w.heap.size
  generalize w.alloc (.cells #[.int .i64 k, .int .i64 n, .string s] 23) = W at *
  generalize hg : w.heap.size = g at *
  obtain ⟨f0, f1, f2⟩ := val_cells sW oW
  (refine wp_region_after (by kernel_rfl) (by kernel_rfl) ?_; (repeat (go_big_quiet_step ((go_at_call 19; exact calls_after (hT _))))); refine wpQuiet_nil ?_; intro wq hw0; obtain ⟨⟨wq0, hbq⟩, hw1⟩ := hw0; subst hw1; (try dsimp only))
  have sQ := hbq.size
  have sq : g < wq.heap.size := by omega
  have oQ := oW.below hbq sW
  have bQ := bW.trans (hbq.mono (by omega))
  clear f0 f1 f2
  obtain ⟨f0, f1, f2⟩ := val_cells sq oQ
  cases b1
  · go_wp2_with fail
    (refine wp_region_after (by kernel_rfl) (by kernel_rfl) ?_; (repeat (go_big_quiet_step ((go_at_call 19; exact calls_after (hF _))))); refine wpQuiet_nil ?_; intro wq2 hw0; obtain ⟨⟨wq0, hbq2⟩, hw1⟩ := hw0; subst hw1; (try dsimp only))
    have bQ2 := bQ.trans (hbq2.mono (by omega))
    cases b2
    · go_wp2
      go_ret
      exact ⟨rfl, bQ2⟩
    · go_wp2
      go_ret
      exact ⟨rfl, bQ2⟩
  · go_wp2
    go_ret
    exact ⟨rfl, bQ⟩
/-- The value of a truth value. -/
def ofT (t : Int) : Value := if t = 2 then vB true else if t = 0 then vB false else vV 0 0 ⟨#[]⟩
set_option maxRecDepth 100000 in
set_option maxHeartbeats 1600000 in
theorem pOf_any (t : Int) (w : World) :
    Calls Tryz.prog 35 #[.int .i64 t] w fun e w' => e = .returned (ofT t) ∧ Below w.heap.size w w' := by
  unfold ofT
  have hB := fun b W => pBool_any b W
  have hN := fun W => pNull_any W
  have oB : Own (w.alloc (.cells #[.int .i64 0, .int .i64 0, .string ⟨#[]⟩] 23)) w.heap.size 23 #[.int .i64 0, .int .i64 0, .string ⟨#[]⟩] := Own.new _ _ _
  unfold vB vV at *
  by_cases h2 : t = 2
  · subst h2
    · rw [if_pos rfl]
      go_enter Tryz.func35, Tryz.ntmps35
      go_wp2_with fail
      refine (hB true _).mono ?_
      rintro e w1 ⟨rfl, hb1⟩
      have z1 := hb1.size
      simp only [World.size_alloc] at z1
      have o1 := oB.below hb1 (by simp only [World.size_alloc]; omega)
      have d0 := o1.cell 0; have e0 := o1.free 0; have d1 := o1.cell 1; have e1 := o1.free 1; have d2 := o1.cell 2; have e2 := o1.free 2; (try simp only [List.getElem?_toArray, List.getElem?_cons_zero, List.getElem?_cons_succ] at d0 d1 d2)
      go_wp2
      (try simp only [Exit.inBlock, Exit.then]); refine bodyPost_ret_by (results_cell_row1 (by rfl) _ _ (w.heap.size) _ (by rfl) (load_val (((o1.store 0 _).store 1 _).store 2 _))) ?_ ?_; (focus rfl); refine ⟨rfl, ?_⟩
      (repeat' (first | (with_reducible exact Below.refl _ _) | (with_reducible assumption) | (with_reducible refine Below.alloc ?_ ?_ _) | (with_reducible refine Below.drew ?_) | (with_reducible refine Below.setCell ?_ ?_ _) | (with_reducible refine Below.trans ?_ (Below.mono (by assumption) ?_)) | go_size))

  rw [if_neg h2]
  by_cases h0 : t = 0
  · subst h0
    · rw [if_pos rfl]
      go_enter Tryz.func35, Tryz.ntmps35
      go_wp2_with fail
      refine (hB false _).mono ?_
      rintro e w1 ⟨rfl, hb1⟩
      have z1 := hb1.size
      simp only [World.size_alloc] at z1
      have o1 := oB.below hb1 (by simp only [World.size_alloc]; omega)
      have d0 := o1.cell 0; have e0 := o1.free 0; have d1 := o1.cell 1; have e1 := o1.free 1; have d2 := o1.cell 2; have e2 := o1.free 2; (try simp only [List.getElem?_toArray, List.getElem?_cons_zero, List.getElem?_cons_succ] at d0 d1 d2)
      go_wp2
      (try simp only [Exit.inBlock, Exit.then]); refine bodyPost_ret_by (results_cell_row1 (by rfl) _ _ (w.heap.size) _ (by rfl) (load_val (((o1.store 0 _).store 1 _).store 2 _))) ?_ ?_; (focus rfl); refine ⟨rfl, ?_⟩
      (repeat' (first | (with_reducible exact Below.refl _ _) | (with_reducible assumption) | (with_reducible refine Below.alloc ?_ ?_ _) | (with_reducible refine Below.drew ?_) | (with_reducible refine Below.setCell ?_ ?_ _) | (with_reducible refine Below.trans ?_ (Below.mono (by assumption) ?_)) | go_size))

  rw [if_neg h0]
  have j2 : (t == 2) = false := by simpa using h2
  have j0 : (t == 0) = false := by simpa using h0
  · · go_enter Tryz.func35, Tryz.ntmps35
      go_wp2_with fail
      refine (hN _).mono ?_
      rintro e w1 ⟨rfl, hb1⟩
      have z1 := hb1.size
      simp only [World.size_alloc] at z1
      have o1 := oB.below hb1 (by simp only [World.size_alloc]; omega)
      have d0 := o1.cell 0; have e0 := o1.free 0; have d1 := o1.cell 1; have e1 := o1.free 1; have d2 := o1.cell 2; have e2 := o1.free 2; (try simp only [List.getElem?_toArray, List.getElem?_cons_zero, List.getElem?_cons_succ] at d0 d1 d2)
      go_wp2
      (try simp only [Exit.inBlock, Exit.then]); refine bodyPost_ret_by (results_cell_row1 (by rfl) _ _ (w.heap.size) _ (by rfl) (load_val (((o1.store 0 _).store 1 _).store 2 _))) ?_ ?_; (focus rfl); refine ⟨rfl, ?_⟩
      (repeat' (first | (with_reducible exact Below.refl _ _) | (with_reducible assumption) | (with_reducible refine Below.alloc ?_ ?_ _) | (with_reducible refine Below.drew ?_) | (with_reducible refine Below.setCell ?_ ?_ _) | (with_reducible refine Below.trans ?_ (Below.mono (by assumption) ?_)) | go_size))

set_option maxRecDepth 100000 in
set_option maxHeartbeats 1600000 in
theorem rOf_any (t : Int) (w : World) :
    Calls Tryz.prog 36 #[.int .i64 t] w fun e w' => e = .returned (ofT t) ∧ Below w.heap.size w w' := by
  unfold ofT
  have hB := fun b W => rBool_any b W
  have hN := fun W => rNull_any W
  have oB : Own (w.alloc (.cells #[.int .i64 0, .int .i64 0, .string ⟨#[]⟩] 23)) w.heap.size 23 #[.int .i64 0, .int .i64 0, .string ⟨#[]⟩] := Own.new _ _ _
  unfold vB vV at *
  by_cases h2 : t = 2
  · subst h2
    · rw [if_pos rfl]
      go_enter Tryz.func36, Tryz.ntmps36
      go_wp2_with fail
      refine (hB true _).mono ?_
      rintro e w1 ⟨rfl, hb1⟩
      have z1 := hb1.size
      simp only [World.size_alloc] at z1
      have o1 := oB.below hb1 (by simp only [World.size_alloc]; omega)
      have d0 := o1.cell 0; have e0 := o1.free 0; have d1 := o1.cell 1; have e1 := o1.free 1; have d2 := o1.cell 2; have e2 := o1.free 2; (try simp only [List.getElem?_toArray, List.getElem?_cons_zero, List.getElem?_cons_succ] at d0 d1 d2)
      go_wp2
      (try simp only [Exit.inBlock, Exit.then]); refine bodyPost_ret_by (results_cell_row1 (by rfl) _ _ (w.heap.size) _ (by rfl) (load_val (((o1.store 0 _).store 1 _).store 2 _))) ?_ ?_; (focus rfl); refine ⟨rfl, ?_⟩
      (repeat' (first | (with_reducible exact Below.refl _ _) | (with_reducible assumption) | (with_reducible refine Below.alloc ?_ ?_ _) | (with_reducible refine Below.drew ?_) | (with_reducible refine Below.setCell ?_ ?_ _) | (with_reducible refine Below.trans ?_ (Below.mono (by assumption) ?_)) | go_size))

  rw [if_neg h2]
  by_cases h0 : t = 0
  · subst h0
    · rw [if_pos rfl]
      go_enter Tryz.func36, Tryz.ntmps36
      go_wp2_with fail
      refine (hB false _).mono ?_
      rintro e w1 ⟨rfl, hb1⟩
      have z1 := hb1.size
      simp only [World.size_alloc] at z1
      have o1 := oB.below hb1 (by simp only [World.size_alloc]; omega)
      have d0 := o1.cell 0; have e0 := o1.free 0; have d1 := o1.cell 1; have e1 := o1.free 1; have d2 := o1.cell 2; have e2 := o1.free 2; (try simp only [List.getElem?_toArray, List.getElem?_cons_zero, List.getElem?_cons_succ] at d0 d1 d2)
      go_wp2
      (try simp only [Exit.inBlock, Exit.then]); refine bodyPost_ret_by (results_cell_row1 (by rfl) _ _ (w.heap.size) _ (by rfl) (load_val (((o1.store 0 _).store 1 _).store 2 _))) ?_ ?_; (focus rfl); refine ⟨rfl, ?_⟩
      (repeat' (first | (with_reducible exact Below.refl _ _) | (with_reducible assumption) | (with_reducible refine Below.alloc ?_ ?_ _) | (with_reducible refine Below.drew ?_) | (with_reducible refine Below.setCell ?_ ?_ _) | (with_reducible refine Below.trans ?_ (Below.mono (by assumption) ?_)) | go_size))

  rw [if_neg h0]
  have j2 : (t == 2) = false := by simpa using h2
  have j0 : (t == 0) = false := by simpa using h0
  · · go_enter Tryz.func36, Tryz.ntmps36
      go_wp2_with fail
      refine (hN _).mono ?_
      rintro e w1 ⟨rfl, hb1⟩
      have z1 := hb1.size
      simp only [World.size_alloc] at z1
      have o1 := oB.below hb1 (by simp only [World.size_alloc]; omega)
      have d0 := o1.cell 0; have e0 := o1.free 0; have d1 := o1.cell 1; have e1 := o1.free 1; have d2 := o1.cell 2; have e2 := o1.free 2; (try simp only [List.getElem?_toArray, List.getElem?_cons_zero, List.getElem?_cons_succ] at d0 d1 d2)
      go_wp2
      (try simp only [Exit.inBlock, Exit.then]); refine bodyPost_ret_by (results_cell_row1 (by rfl) _ _ (w.heap.size) _ (by rfl) (load_val (((o1.store 0 _).store 1 _).store 2 _))) ?_ ?_; (focus rfl); refine ⟨rfl, ?_⟩
      (repeat' (first | (with_reducible exact Below.refl _ _) | (with_reducible assumption) | (with_reducible refine Below.alloc ?_ ?_ _) | (with_reducible refine Below.drew ?_) | (with_reducible refine Below.setCell ?_ ?_ _) | (with_reducible refine Below.trans ?_ (Below.mono (by assumption) ?_)) | go_size))

/-! ### the order -/
theorem cb_spec : ∀ l m : List UInt8, Lib.compareBytes l m = if Op.bytesLess l m then -1 else if l == m then 0 else 1
  | [], [] => rfl
  | [], _ :: _ => rfl
  | _ :: _, [] => rfl
  | a :: x, b :: y => by
    unfold Lib.compareBytes Op.bytesLess
    rw [cb_spec x y]
    by_cases h1 : a < b
    · simp [h1]
    · by_cases h2 : b < a
      · have hne : a ≠ b := by intro e; subst e; exact h1 h2
        have hb : (a == b) = false := by simpa using hne
        simp [h1, h2, hne]
      · have hab : a = b := by
          have h3 : ¬ a.toNat < b.toNat := h1
          have h4 : ¬ b.toNat < a.toNat := h2
          exact UInt8.toNat_inj.1 (by omega)
        subst hab
        simp [h1]
/-- The order of values. -/
def cmpV (k n : Int) (s : ByteArray) (k2 n2 : Int) (s2 : ByteArray) : Int :=
  if k < k2 then -1 else if k2 < k then 1 else if n < n2 then -1 else if n2 < n then 1 else Lib.compareBytes s.data.toList s2.data.toList
set_option maxRecDepth 100000 in
set_option maxHeartbeats 1600000 in
theorem pCompare_any (k n : Int) (s : ByteArray) (k2 n2 : Int) (s2 : ByteArray) (w : World) :
    Calls Tryz.prog 21 #[vV k n s, vV k2 n2 s2] w fun e w' => e = .returned (.int .i64 (cmpV k n s k2 n2 s2)) ∧ Below w.heap.size w w' := by
  have h1 := fun W => Tryz.cmp_Compare_int k k2 W
  have h2 := fun W => Tryz.cmp_Compare_int n n2 W
  have h3 := fun W => Tryz.strings_Compare s s2 W
  unfold cmpV
  generalize hs : Lib.compareBytes s.data.toList s2.data.toList = c3 at *
  clear hs
  unfold vV
  unfold Lib.compareInt at h1 h2
  rcases Int.lt_trichotomy k k2 with h | h | h
  · rw [if_pos h]
    rw [if_pos h] at h1
    go_enter Tryz.func21, Tryz.ntmps21
    go_wp2_with (go_at_call 45; with_reducible refine (h1 _).mono ?_; rintro e w1 ⟨rfl, rfl⟩)
    go_ret
    refine ⟨rfl, ?_⟩
    (repeat' (first | (with_reducible exact Below.refl _ _) | (with_reducible assumption) | (with_reducible refine Below.alloc ?_ ?_ _) | (with_reducible refine Below.drew ?_) | (with_reducible refine Below.setCell ?_ ?_ _) | (with_reducible refine Below.trans ?_ (Below.mono (by assumption) ?_)) | go_size))
  · subst h
    rw [if_neg (by omega), if_neg (by omega)]
    rw [if_neg (by omega), if_neg (by omega)] at h1
    rcases Int.lt_trichotomy n n2 with h | h | h
    · rw [if_pos h]
      rw [if_pos h] at h2
      go_enter Tryz.func21, Tryz.ntmps21
      go_wp2_with (go_at_call 45; (first | with_reducible refine (h1 _).mono ?_ | with_reducible refine (h2 _).mono ?_); rintro e w1 ⟨rfl, rfl⟩)
      go_ret
      refine ⟨rfl, ?_⟩
      (repeat' (first | (with_reducible exact Below.refl _ _) | (with_reducible assumption) | (with_reducible refine Below.alloc ?_ ?_ _) | (with_reducible refine Below.drew ?_) | (with_reducible refine Below.setCell ?_ ?_ _) | (with_reducible refine Below.trans ?_ (Below.mono (by assumption) ?_)) | go_size))
    · subst h
      rw [if_neg (by omega), if_neg (by omega)]
      rw [if_neg (by omega), if_neg (by omega)] at h2
      go_enter Tryz.func21, Tryz.ntmps21
      go_wp2_with (first | (go_at_call 45; (first | with_reducible refine (h1 _).mono ?_ | with_reducible refine (h2 _).mono ?_); rintro e w1 ⟨rfl, rfl⟩) | (go_at_call 46; with_reducible refine (h3 _).mono ?_; rintro e w1 ⟨rfl, rfl⟩))
      go_ret
      refine ⟨rfl, ?_⟩
      (repeat' (first | (with_reducible exact Below.refl _ _) | (with_reducible assumption) | (with_reducible refine Below.alloc ?_ ?_ _) | (with_reducible refine Below.drew ?_) | (with_reducible refine Below.setCell ?_ ?_ _) | (with_reducible refine Below.trans ?_ (Below.mono (by assumption) ?_)) | go_size))
    · rw [if_neg (by omega), if_pos h]
      rw [if_neg (by omega), if_pos h] at h2
      go_enter Tryz.func21, Tryz.ntmps21
      go_wp2_with (go_at_call 45; (first | with_reducible refine (h1 _).mono ?_ | with_reducible refine (h2 _).mono ?_); rintro e w1 ⟨rfl, rfl⟩)
      go_ret
      refine ⟨rfl, ?_⟩
      (repeat' (first | (with_reducible exact Below.refl _ _) | (with_reducible assumption) | (with_reducible refine Below.alloc ?_ ?_ _) | (with_reducible refine Below.drew ?_) | (with_reducible refine Below.setCell ?_ ?_ _) | (with_reducible refine Below.trans ?_ (Below.mono (by assumption) ?_)) | go_size))
  · rw [if_neg (by omega), if_pos h]
    rw [if_neg (by omega), if_pos h] at h1
    go_enter Tryz.func21, Tryz.ntmps21
    go_wp2_with (go_at_call 45; with_reducible refine (h1 _).mono ?_; rintro e w1 ⟨rfl, rfl⟩)
    go_ret
    refine ⟨rfl, ?_⟩
    (repeat' (first | (with_reducible exact Below.refl _ _) | (with_reducible assumption) | (with_reducible refine Below.alloc ?_ ?_ _) | (with_reducible refine Below.drew ?_) | (with_reducible refine Below.setCell ?_ ?_ _) | (with_reducible refine Below.trans ?_ (Below.mono (by assumption) ?_)) | go_size))
def sgn (a b : Bool) : Int := if a then -1 else if b then 1 else 0
set_option maxHeartbeats 400000 in
theorem sign_any (a b : Bool) (w : World) : Calls Tryz.prog 47 #[.bool a, .bool b] w fun e w' => e = .returned (.int .i64 (sgn a b)) ∧ w' = w := by
  cases a <;> cases b
  all_goals
    go_enter Tryz.func47, Tryz.ntmps47
    go_wp2
    go_ret
    exact ⟨rfl, rfl⟩
set_option maxRecDepth 100000 in
set_option maxHeartbeats 1600000 in
theorem rCompare_any (k n : Int) (s : ByteArray) (k2 n2 : Int) (s2 : ByteArray) (w : World) :
    Calls Tryz.prog 22 #[vV k n s, vV k2 n2 s2] w fun e w' => e = .returned (.int .i64 (cmpV k n s k2 n2 s2)) ∧ Below w.heap.size w w' := by
  have hS := fun a b W => sign_any a b W
  unfold cmpV
  rw [cb_spec, ← Lib.toList_data, ← Lib.toList_data]
  unfold vV
  rcases Int.lt_trichotomy k k2 with h | h | h
  · rw [if_pos h]
    go_enter Tryz.func22, Tryz.ntmps22
    go_wp2_with (go_at_call 47; refine (hS _ _ _).mono ?_; rintro e w1 ⟨rfl, rfl⟩)
    go_ret
    refine ⟨rfl, ?_⟩
    (repeat' (first | (with_reducible exact Below.refl _ _) | (with_reducible assumption) | (with_reducible refine Below.alloc ?_ ?_ _) | (with_reducible refine Below.drew ?_) | (with_reducible refine Below.setCell ?_ ?_ _) | (with_reducible refine Below.trans ?_ (Below.mono (by assumption) ?_)) | go_size))
  · subst h
    rw [if_neg (by omega), if_neg (by omega)]
    rcases Int.lt_trichotomy n n2 with h | h | h
    · rw [if_pos h]
      go_enter Tryz.func22, Tryz.ntmps22
      go_wp2_with (go_at_call 47; refine (hS _ _ _).mono ?_; rintro e w1 ⟨rfl, rfl⟩)
      go_ret
      refine ⟨rfl, ?_⟩
      (repeat' (first | (with_reducible exact Below.refl _ _) | (with_reducible assumption) | (with_reducible refine Below.alloc ?_ ?_ _) | (with_reducible refine Below.drew ?_) | (with_reducible refine Below.setCell ?_ ?_ _) | (with_reducible refine Below.trans ?_ (Below.mono (by assumption) ?_)) | go_size))
    · subst h
      rw [if_neg (by omega), if_neg (by omega)]
      cases hl : Op.bytesLess s.toList s2.toList <;> cases he : s.toList == s2.toList
      all_goals
        go_enter Tryz.func22, Tryz.ntmps22
        go_wp2_with (go_at_call 47; refine (hS _ _ _).mono ?_; rintro e w1 ⟨rfl, rfl⟩)
        go_ret
        refine ⟨rfl, ?_⟩
        (repeat' (first | (with_reducible exact Below.refl _ _) | (with_reducible assumption) | (with_reducible refine Below.alloc ?_ ?_ _) | (with_reducible refine Below.drew ?_) | (with_reducible refine Below.setCell ?_ ?_ _) | (with_reducible refine Below.trans ?_ (Below.mono (by assumption) ?_)) | go_size))
    · rw [if_neg (by omega), if_pos h]
      go_enter Tryz.func22, Tryz.ntmps22
      go_wp2_with (go_at_call 47; refine (hS _ _ _).mono ?_; rintro e w1 ⟨rfl, rfl⟩)
      go_ret
      have hd : ¬ n < n2 := by omega
      refine ⟨by simp [sgn, hd], ?_⟩
      (repeat' (first | (with_reducible exact Below.refl _ _) | (with_reducible assumption) | (with_reducible refine Below.alloc ?_ ?_ _) | (with_reducible refine Below.drew ?_) | (with_reducible refine Below.setCell ?_ ?_ _) | (with_reducible refine Below.trans ?_ (Below.mono (by assumption) ?_)) | go_size))
  · rw [if_neg (by omega), if_pos h]
    go_enter Tryz.func22, Tryz.ntmps22
    go_wp2_with (go_at_call 47; refine (hS _ _ _).mono ?_; rintro e w1 ⟨rfl, rfl⟩)
    go_ret
    have hd : ¬ k < k2 := by omega
    refine ⟨by simp [sgn, hd], ?_⟩
    (repeat' (first | (with_reducible exact Below.refl _ _) | (with_reducible assumption) | (with_reducible refine Below.alloc ?_ ?_ _) | (with_reducible refine Below.drew ?_) | (with_reducible refine Below.setCell ?_ ?_ _) | (with_reducible refine Below.trans ?_ (Below.mono (by assumption) ?_)) | go_size))
end Go.Proofs.YthjnkekkjjcnfaaGreatDoor
