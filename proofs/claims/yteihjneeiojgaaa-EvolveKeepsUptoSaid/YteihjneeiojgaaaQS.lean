import Derived.Test.YteihjneeiojgaaaME
import Derived.WalkKit
import Derived.WalkSpells
import Derived.WalkLawsBesides
import Derived.Deep.QuietTactic
import Derived.BigQuiet
import Derived.Handy
import Derived.Lib.Hide
/-
  The operators of expressions: how many arguments each asks, of which kinds, and the kind of its result. Conditions: none.
-/
namespace Go.Proofs.Yteihjneeiojgaaa
set_option maxRecDepth 100000
set_option linter.unusedVariables false
set_option linter.unusedSimpArgs false
open Go.RowKit

/-- Whether there is such an operator. -/
def knw (op : Int) : Bool := op == 1 || op == 2 || op == 4 || op == 5 || op == 6 || op == 7 || op == 8 || op == 9 || op == 10 || op == 11 || op == 12 || op == 13 || op == 14 || op == 15 || op == 16 || op == 17 || op == 18 || op == 19 || op == 20 || op == 21 || op == 22 || op == 23 || op == 24
def opLo (op : Int) : Int := if op = 1 ∨ op = 2 then 0 else if op = 4 then 1 else if op = 5 ∨ op = 6 then 2 else if op = 7 ∨ op = 8 ∨ op = 9 ∨ op = 10 ∨ op = 11 ∨ op = 12 then 2 else if op = 13 ∨ op = 14 ∨ op = 15 ∨ op = 16 ∨ op = 17 then 2 else if op = 18 then 1 else if op = 19 then 2 else if op = 20 then 1 else if op = 21 then 1 else if op = 22 then 3 else if op = 23 then 1 else if op = 24 then 4 else 0
def opHi (op : Int) : Int := if op = 1 ∨ op = 2 then 0 else if op = 4 then 1 else if op = 5 ∨ op = 6 then 9223372036854775807 else if op = 7 ∨ op = 8 ∨ op = 9 ∨ op = 10 ∨ op = 11 ∨ op = 12 then 2 else if op = 13 ∨ op = 14 ∨ op = 15 ∨ op = 16 ∨ op = 17 then 2 else if op = 18 then 1 else if op = 19 then 2 else if op = 20 then 1 else if op = 21 then 1 else if op = 22 then 3 else if op = 23 then 9223372036854775807 else if op = 24 then 4 else 0
def opAr (op : Int) : Int := if op = 1 ∨ op = 2 then 0 else if op = 4 then 3 else if op = 5 ∨ op = 6 then 3 else if op = 7 ∨ op = 8 ∨ op = 9 ∨ op = 10 ∨ op = 11 ∨ op = 12 then 0 else if op = 13 ∨ op = 14 ∨ op = 15 ∨ op = 16 ∨ op = 17 then 1 else if op = 18 then 1 else if op = 19 then 2 else if op = 20 then 2 else if op = 21 then 0 else if op = 22 then 0 else if op = 23 then 0 else if op = 24 then 1 else 0
def opRs (op : Int) : Int := if op = 1 ∨ op = 2 then 0 else if op = 4 then 3 else if op = 5 ∨ op = 6 then 3 else if op = 7 ∨ op = 8 ∨ op = 9 ∨ op = 10 ∨ op = 11 ∨ op = 12 then 3 else if op = 13 ∨ op = 14 ∨ op = 15 ∨ op = 16 ∨ op = 17 then 1 else if op = 18 then 1 else if op = 19 then 2 else if op = 20 then 1 else if op = 21 then 3 else if op = 22 then 0 else if op = 23 then 0 else if op = 24 then 3 else 0
theorem op_cases (op : Int) : op = 1 ∨ op = 2 ∨ op = 4 ∨ op = 5 ∨ op = 6 ∨ op = 7 ∨ op = 8 ∨ op = 9 ∨ op = 10 ∨ op = 11 ∨ op = 12 ∨ op = 13 ∨ op = 14 ∨ op = 15 ∨ op = 16 ∨ op = 17 ∨ op = 18 ∨ op = 19 ∨ op = 20 ∨ op = 21 ∨ op = 22 ∨ op = 23 ∨ op = 24 ∨ (op ≠ 1 ∧ op ≠ 2 ∧ op ≠ 4 ∧ op ≠ 5 ∧ op ≠ 6 ∧ op ≠ 7 ∧ op ≠ 8 ∧ op ≠ 9 ∧ op ≠ 10 ∧ op ≠ 11 ∧ op ≠ 12 ∧ op ≠ 13 ∧ op ≠ 14 ∧ op ≠ 15 ∧ op ≠ 16 ∧ op ≠ 17 ∧ op ≠ 18 ∧ op ≠ 19 ∧ op ≠ 20 ∧ op ≠ 21 ∧ op ≠ 22 ∧ op ≠ 23 ∧ op ≠ 24) := by omega
theorem rcell1 {fn : Func} {p : Tmp} {ty : TypeId} (h : fn.results = #[.cell p ty]) (tmps : Array Value) (w : World) (g : Nat) (cs : Array Value) (hp : tmps.getD p undef = .pointer (some ⟨g, 0, none⟩))
    (hl : (loadVar ty ⟨g, 0, none⟩).run Try.prog w = .ok (.agg cs) w) : (results fn tmps).run Try.prog w = .ok (.agg cs) w := by
  have hp' : tmps[p]?.getD undef = .pointer (some ⟨g, 0, none⟩) := by simpa using hp
  simp [results, h, hp', asAddr, hl]
theorem rcell2 {fn : Func} {p u : Tmp} {ty : TypeId} (h : fn.results = #[.cell p ty, .tmp u]) (tmps : Array Value) (w : World) (g : Nat) (cs : Array Value) (hp : tmps.getD p undef = .pointer (some ⟨g, 0, none⟩))
    (hl : (loadVar ty ⟨g, 0, none⟩).run Try.prog w = .ok (.agg cs) w) : (results fn tmps).run Try.prog w = .ok (.tuple #[.agg cs, tmps.getD u undef]) w := by
  have hp' : tmps[p]?.getD undef = .pointer (some ⟨g, 0, none⟩) := by simpa using hp
  simp [results, h, hp', asAddr, hl]
theorem load_shape {w : World} {g : Nat} {x y z t : Value} (h : Own w g 96 #[x, y, z, t]) : (loadVar 96 ⟨g, 0, none⟩).run Try.prog w = .ok (.agg #[x, y, z, t]) w :=
  run_loadVar_row w g 96 96 #[x, y, z, t] (0, 0) _ h Try.underlying96 rfl (by kernel_rfl)
set_option maxRecDepth 100000 in
set_option maxHeartbeats 12800000 in
theorem pShape_any (op : Int) (w : World) : Calls Try.prog 62 #[.int .i64 op] w fun e w' => e = .returned (.tuple #[.agg #[.int .i64 (opLo op), .int .i64 (opHi op), .int .i64 (opAr op), .int .i64 (opRs op)], .bool (knw op)]) ∧ Below w.heap.size w w' := by
  rcases op_cases op with rfl | rfl | rfl | rfl | rfl | rfl | rfl | rfl | rfl | rfl | rfl | rfl | rfl | rfl | rfl | rfl | rfl | rfl | rfl | rfl | rfl | rfl | rfl | ⟨h1, h2, h4, h5, h6, h7, h8, h9, h10, h11, h12, h13, h14, h15, h16, h17, h18, h19, h20, h21, h22, h23, h24⟩
  rotate_right
  · have k0 : knw op = false := by simp only [knw, Bool.or_eq_false_iff, beq_eq_false_iff_ne]; omega
    have k1 : opLo op = 0 ∧ opHi op = 0 ∧ opAr op = 0 ∧ opRs op = 0 := by unfold opLo opHi opAr opRs; refine ⟨?_, ?_, ?_, ?_⟩ <;> (repeat rw [if_neg (by omega)])
    rw [k0, k1.1, k1.2.1, k1.2.2.1, k1.2.2.2]
    clear k0 k1
    simp only [← beq_eq_false_iff_ne] at *
    go_enter Try.func62, Try.ntmps62
    go_wp2
    (try simp only [Exit.inBlock, Exit.then]); refine bodyPost_ret_by (rcell2 (by rfl) _ _ (w.heap.size) _ (by rfl) (load_shape (Own.new w _ _))) ?_ ?_; (focus rfl); refine ⟨rfl, ?_⟩
    (repeat' (first | (with_reducible exact Below.refl _ _) | (with_reducible assumption) | (with_reducible refine Below.alloc ?_ ?_ _) | (with_reducible refine Below.drew ?_) | (with_reducible refine Below.setCell ?_ ?_ _) | (with_reducible refine Below.trans ?_ (Below.mono (by assumption) ?_)) | go_size))
  all_goals
    (go_enter Try.func62, Try.ntmps62
     go_wp2
     (try simp only [Exit.inBlock, Exit.then]); refine bodyPost_ret_by (rcell2 (by rfl) _ _ (w.heap.size) _ (by rfl) (load_shape (Own.new w _ _))) ?_ ?_; (focus rfl); refine ⟨rfl, ?_⟩
     (repeat' (first | (with_reducible exact Below.refl _ _) | (with_reducible assumption) | (with_reducible refine Below.alloc ?_ ?_ _) | (with_reducible refine Below.drew ?_) | (with_reducible refine Below.setCell ?_ ?_ _) | (with_reducible refine Below.trans ?_ (Below.mono (by assumption) ?_)) | go_size)))
end Go.Proofs.Yteihjneeiojgaaa
