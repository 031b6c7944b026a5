import Derived.Test.YtjdbjnmnihnmhaaMT
import Derived.Test.YtjdbjnmnihnmhaaMW
import Derived.Test.YtjdbjnmnihnmhaaQM
import Derived.WalkKit
import Derived.WalkSpells
import Derived.WalkLawsBesides
import Derived.Deep.QuietTactic
import Derived.BigQuiet
import Derived.Handy
import Derived.Lib.Hide
/-
  What the functions of Eval answer: values of constants, columns, texts, numbers, comparisons. Conditions: numbers that are values.
-/
namespace Go.Proofs.Ytjdbjnmnihnmhaa
set_option maxRecDepth 100000
set_option linter.unusedVariables false
set_option linter.unusedSimpArgs false
open Go.RowKit

def vldP (p : Vl) : Bool := Va.vldV p.1 p.2.1 p.2.2
def nullP : Vl := (0, 0, ⟨#[]⟩)
def nrmP (p : Vl) : Vl := if vldP p then p else nullP
def intP (n : Int) : Vl := nrmP (1, n, ⟨#[]⟩)
def txtP (s : ByteArray) : Vl := nrmP (2, 0, s)
def booP (b : Bool) : Vl := (3, if b then 1 else 0, ⟨#[]⟩)
def ofP (t : Int) : Vl := if t = 2 then booP true else if t = 0 then booP false else nullP
def truP (p : Vl) : Int := Va.truV p.1 p.2.1 p.2.2
theorem nrm_eq (k n : Int) (s : ByteArray) : Va.nrm k n s = valV (nrmP (k, n, s)) := by
  unfold Va.nrm nrmP vldP
  dsimp only
  split <;> rfl
theorem of_eq (t : Int) : Va.ofT t = valV (ofP t) := by
  unfold Va.ofT ofP
  split
  · rfl
  · split <;> rfl
def lenP (p : Vl) : Vl := if p.1 = 2 then intP p.2.2.size else nullP
def catP (p q : Vl) : Vl := if p.1 = 2 ∧ q.1 = 2 then txtP (p.2.2 ++ q.2.2) else nullP
theorem own_three {w : World} {t : TypeId} {cs : Array Value} (o o2 : Obj) : Own (((w.alloc o).alloc o2).alloc (.cells cs t)) (w.heap.size + 1 + 1) t cs := by
  have h := Own.new ((w.alloc o).alloc o2) t cs
  rwa [World.size_alloc, World.size_alloc] at h
end Go.Proofs.Ytjdbjnmnihnmhaa
