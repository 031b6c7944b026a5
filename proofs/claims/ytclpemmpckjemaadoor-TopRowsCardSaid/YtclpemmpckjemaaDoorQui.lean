/-
  Regions that draw their order, read, and call functions that may make memory but write nothing old: walked once, in the order of the text. Conditions: none.
-/
import Derived.Deep.QuietTactic
import Derived.Deep.Slices
import Derived.WalkKit
namespace Go.Proofs.YtclpemmpckjemaaDoor
open Go.RowKit

/-- A world behind W in which nothing old is written. -/
structure After (W : World) where
  w : World
  h : Below W.heap.size W w
instance {W : World} : Nonempty (After W) := ⟨⟨W, Below.refl _ _⟩⟩
instance {W : World} : Inhabited (After W) := ⟨⟨W, Below.refl _ _⟩⟩
theorem after_cell {W : World} {a : Addr} {v : Value} (hb : a.block < W.heap.size) (h : W.cell? a = some v) (p : After W) : p.w.cell? a = some v := (p.h.cell hb).trans h
theorem calls_after {P : Program} {f : FuncId} {args : Array Value} {W : World} {p : After W} {v : Value} (h : Calls P f args p.w fun e w' => e = .returned v ∧ Below p.w.heap.size p.w w') :
    Calls P f args p.w fun e w'' => e = .returned v ∧ ∃ q : After W, w'' = q.w :=
  h.mono fun _ _ ⟨he, hb⟩ => ⟨he, ⟨_, p.h.trans (hb.mono p.h.size)⟩, rfl⟩
theorem wp_region_after {P : Program} {id : Nat} {Q : Exit → Act → World → Prop} {a : Act} {w : World} {l : List Oper} (hm : P.follows .mixedOrders = true) (hB : Region.lexB .any l.toArray = true)
    (h : wpQuiet P l.toArray (fun w' => ∃ p : After w, w' = p.w) (fun a' => ∀ w', (∃ p : After w, w' = p.w) → Q .normal a' w') l a) : (Code.region id l.toArray true).wp P Q a w :=
  wp_region_quiet (C := fun w' => ∃ p : After w, w' = p.w) hm hB ⟨⟨w.drew, Below.drew (Below.refl _ _)⟩, rfl⟩ (by simpa using h)
end Go.Proofs.YtclpemmpckjemaaDoor
