import Derived.Test.YteihjneeiojgaaaQM
import Derived.Test.YteihjneeiojgaaaMW
import Derived.WalkKit
import Derived.WalkSpells
import Derived.WalkLawsBesides
import Derived.Deep.QuietTactic
import Derived.BigQuiet
import Derived.Handy
import Derived.Lib.Hide
import Derived.Test.YteihjneeiojgaaaSExUc
import Derived.Laws.StructEq
import Derived.Test.YteihjneeiojgaaaMT
/-
  Comparison of expressions, by the program. Conditions: lengths, a bounded depth.
-/
namespace Go.Proofs.Yteihjneeiojgaaa
set_option maxRecDepth 100000
set_option linter.unusedVariables false
set_option linter.unusedSimpArgs false
open Go.RowKit

/-- Two lists are the same by f, element by element. -/
def sameL (f : Ex → Ex → Bool) : List Ex → List Ex → Bool
  | [], [] => true
  | a :: l, b :: m => f a b && sameL f l m
  | _, _ => false
/-- The own fields of two expressions are the same. -/
def sameF (a b : Ex) : Bool := (a.op == b.op) && (a.n == b.n) && Va.eqV a.v.1 a.v.2.1 a.v.2.2 b.v.1 b.v.2.1 b.v.2.2 && (a.nm.toList == b.nm.toList)
def sameE : Nat → Ex → Ex → Bool
  | 0, _, _ => true
  | d + 1, a, b => sameF a b && sameL (sameE d) a.args b.args
theorem sameL_len (f : Ex → Ex → Bool) : ∀ l m : List Ex, l.length ≠ m.length → sameL f l m = false
  | [], [], h => absurd rfl h
  | [], _ :: _, _ => rfl
  | _ :: _, [], _ => rfl
  | a :: l, b :: m, h => by
    unfold sameL
    rw [sameL_len f l m (fun e => h (by simp [e]))]
    simp
theorem sameL_drop (f : Ex → Ex → Bool) (l m : List Ex) (k : Nat) (a b : Ex) (ha : l[k]? = some a) (hb : m[k]? = some b) : sameL f (l.drop k) (m.drop k) = (f a b && sameL f (l.drop (k + 1)) (m.drop (k + 1))) := by
  obtain ⟨h1, rfl⟩ := List.getElem?_eq_some_iff.1 ha
  obtain ⟨h2, rfl⟩ := List.getElem?_eq_some_iff.1 hb
  rw [List.drop_eq_getElem_cons h1, List.drop_eq_getElem_cons h2]
  rfl
end Go.Proofs.Yteihjneeiojgaaa
/-
  Comparison of tables: slices.Equal over columns and numbers, sameForeign, slices.EqualFunc over foreign keys. Conditions: none. (Written by mkSsA.py.)
-/
namespace Go.Proofs.Yteihjneeiojgaaa
set_option maxRecDepth 100000
set_option linter.unusedVariables false
set_option linter.unusedSimpArgs false
open Go.RowKit

/-- Two lists are compared element by element. -/
def twoL {α : Type} (f : α → α → Bool) : List α → List α → Bool
  | [], [] => true
  | a :: l, b :: m => f a b && twoL f l m
  | _, _ => false
theorem twoL_len {α : Type} (f : α → α → Bool) : ∀ l m : List α, l.length ≠ m.length → twoL f l m = false
  | [], [], h => absurd rfl h
  | [], _ :: _, _ => rfl
  | _ :: _, [], _ => rfl
  | _ :: l, _ :: m, h => by
    unfold twoL
    rw [twoL_len f l m (fun e => h (by simp [e])), Bool.and_false]
theorem twoL_drop {α : Type} (f : α → α → Bool) (l m : List α) (k : Nat) (a b : α) (ha : l[k]? = some a) (hb : m[k]? = some b) : twoL f (l.drop k) (m.drop k) = (f a b && twoL f (l.drop (k + 1)) (m.drop (k + 1))) := by
  obtain ⟨h1, rfl⟩ := List.getElem?_eq_some_iff.1 ha
  obtain ⟨h2, rfl⟩ := List.getElem?_eq_some_iff.1 hb
  rw [List.drop_eq_getElem_cons h1, List.drop_eq_getElem_cons h2]
  rfl
theorem twoL_self {α : Type} (f : α → α → Bool) (h : ∀ a, f a a = true) : ∀ l : List α, twoL f l l = true
  | [] => rfl
  | a :: l => by
    unfold twoL
    rw [h, twoL_self f h l]
    rfl
def eqC (a b : Cl) : Bool := a.1.toList == b.1.toList && (a.2.1 == b.2.1 && a.2.2 == b.2.2)
def eqI (a b : Int) : Bool := a == b
def eqF (a b : Fk) : Bool := a.2.toList == b.2.toList && twoL eqI a.1 b.1
theorem neq_col (s : ByteArray) (k : Int) (b : Bool) (s2 : ByteArray) (k2 : Int) (b2 : Bool) (w : World) : (binOp .neq 36 (.agg #[.string s, .int .i64 k, .bool b]) (.agg #[.string s2, .int .i64 k2, .bool b2])).run Try.prog w = .ok (.bool (!eqC (s, k, b) (s2, k2, b2))) w := by
  rw [run_neq_struct, run_equalIn_struct w 9999 36 _ _ (by kernel_rfl) (by kernel_rfl)]
  simp [Program.fieldsOf, Op.eqFields, Try.underlying36, Try.underlying3, Try.underlying9, Try.underlying4, part, isAgg, go_sem]
  unfold eqC
  by_cases h1 : k = k2 <;> by_cases h2 : b = b2 <;> by_cases h3 : s.toList = s2.toList <;> simp [h1, h2, h3]
end Go.Proofs.Yteihjneeiojgaaa
/-
  What the functions of Eval answer: values of constants, columns, texts, numbers, comparisons. Conditions: numbers that are values.
-/
namespace Go.Proofs.Yteihjneeiojgaaa
set_option maxRecDepth 100000
set_option linter.unusedVariables false
set_option linter.unusedSimpArgs false
open Go.RowKit

def vldP (p : Vl) : Bool := Va.vldV p.1 p.2.1 p.2.2
def nullP : Vl := (0, 0, ⟨#[]⟩)
def nrmP (p : Vl) : Vl := if vldP p then p else nullP
def intP (n : Int) : Vl := nrmP (1, n, ⟨#[]⟩)
def txtP (s : ByteArray) : Vl := nrmP (2, 0, s)
def booP (b : Bool) : Vl := (3, if b then 1 else 0, ⟨#[]⟩)
def ofP (t : Int) : Vl := if t = 2 then booP true else if t = 0 then booP false else nullP
def truP (p : Vl) : Int := Va.truV p.1 p.2.1 p.2.2
theorem nrm_eq (k n : Int) (s : ByteArray) : Va.nrm k n s = valV (nrmP (k, n, s)) := by
  unfold Va.nrm nrmP vldP
  dsimp only
  split <;> rfl
theorem of_eq (t : Int) : Va.ofT t = valV (ofP t) := by
  unfold Va.ofT ofP
  split
  · rfl
  · split <;> rfl
def lenP (p : Vl) : Vl := if p.1 = 2 then intP p.2.2.size else nullP
def catP (p q : Vl) : Vl := if p.1 = 2 ∧ q.1 = 2 then txtP (p.2.2 ++ q.2.2) else nullP
theorem own_three {w : World} {t : TypeId} {cs : Array Value} (o o2 : Obj) : Own (((w.alloc o).alloc o2).alloc (.cells cs t)) (w.heap.size + 1 + 1) t cs := by
  have h := Own.new ((w.alloc o).alloc o2) t cs
  rwa [World.size_alloc, World.size_alloc] at h
end Go.Proofs.Yteihjneeiojgaaa
