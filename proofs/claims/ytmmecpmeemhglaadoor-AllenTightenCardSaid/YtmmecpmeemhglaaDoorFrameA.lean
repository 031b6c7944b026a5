/-
  What the statements' rows give at their first world: the table of keywords as the program lays it (Env); a start that fits. Conditions: none.
-/
import Derived.Test.YtmmecpmeemhglaaDoorRows
import Derived.Test.YtmmecpmeemhglaaDoorNames
import Derived.Test.YtmmecpmeemhglaaDoorLift
import Derived.MakeChecks
import Derived.ProofKit
import Derived.LaidMore
import Derived.OpenShut
import Derived.Lib.SmallJoins
namespace Go.Proofs.YtmmecpmeemhglaaDoor
open Go.ChangeShapes Go.WideShapes Go.ChangeAt Go.RowKit Go.Joins

theorem own : ownKnob Tryd.prog.godebug = none := by kernel_rfl
theorem laidOut : laidOutB Tryd.prog = true := by kernel_rfl
theorem tNames : (Tryd.prog.globals[0]?).map (·.type) = some 61 := by kernel_rfl
theorem cellsNames : Tryd.prog.cellsOf 61 = 13 := by kernel_rfl
theorem cellsStr : Tryd.prog.cellsOf 9 = 1 := by kernel_rfl
theorem cellsPer : Tryd.prog.cellsOf 23 = 2 := by kernel_rfl

def laid1 : List (String × DataW Unit) := [("bitemporal/allen.names", Rows.laid_bitemporal_allen_names)]
theorem lowSize {w : World} (h : w.ShapedOpen Tryd.prog) : 1 ≤ w.heap.size := by
  have h0 : (((begin Tryd.prog (fun _ _ => 0) default).world.heap[0]?).bind Obj.row?).isSome = true := by kernel_rfl
  obtain ⟨⟨z, t⟩, hz⟩ := Option.isSome_iff_exists.1 h0
  obtain ⟨cs, hh, _⟩ := h.1 0 z t (by rw [globalsSize]; decide) hz
  have : 0 < w.heap.size := by
    rcases Nat.lt_or_ge 0 w.heap.size with h1 | h1
    · exact h1
    · rw [Array.getElem?_eq_none h1] at hh; cases hh
  omega

theorem env_of {w : World} (hS : w.ShapedOpen Tryd.prog) (hL : laidMetH Tryd.prog laid1 w) : Env w := by
  refine Env.of_var (lowSize hS) ?_
  rw [MakeChecks.laidMetH_plain _ _ _ (by kernel_rfl)] at hL
  obtain ⟨ps, ⟨g0, t0, cs0, f0, p0, q0, hg0, ht0, hv0, hd0, _, _⟩, _⟩ := hL
  obtain rfl := Option.some.inj (gNames.symm.trans hg0)
  obtain rfl := Option.some.inj (tNames.symm.trans ht0)
  rw [hv0, ← cells_of_strs (zs := nmL) Tryd.underlying61 Tryd.underlying9 cellsStr cellsNames hd0]

theorem door_met (os : Os) (args : Array Value) : laidMetH Tryd.prog laid1 ((World.doorLaid Tryd.prog 4000 os).forCall (fun _ _ => 0) ⟨#[], args, []⟩).memory :=
  laidMetH_of_parts3 (fuel := 8) (laidMet_of_run' 8 (by kernel_rfl) (by kernel_rfl)) (by kernel_rfl) (by kernel_rfl)

/-- A period that can be read is two ints. -/
theorem open_per {H : Type} {enc : TypeId × Value → H} {W : World} {base : Nat} {v : Value} {d : DataW H} {p : List MemPlace} (hv : Value.okWide Tryd.prog W .any base 23 v) (h : DataW.Trod enc Tryd.prog W 0 (fun _ => true) true 23 v d p) :
    ∃ a b : Int, v = .agg #[.int .i64 a, .int .i64 b] := by
  obtain ⟨c0, c1, y0, y1, m, rfl, rfl, rfl, hy0, hy1⟩ := open_agg2 Tryd.underlying23 (by kernel_rfl) cellsPer hv h
  obtain ⟨a, e0, rfl, wa⟩ := DataW.trod_int Tryd.underlying3 hy0
  obtain ⟨b, e1, rfl, wb⟩ := DataW.trod_int Tryd.underlying3 hy1
  simp at e0 e1
  subst e0 e1
  exact ⟨a, b, rfl⟩
end Go.Proofs.YtmmecpmeemhglaaDoor
