/-
  What the statement's row gives at its first world: the table as the program lays it (Env); a start that fits. Conditions: none.
-/
import Derived.Test.YtclpemmpckjemaaDoorRows
import Derived.Test.YtclpemmpckjemaaDoorTopFrC
import Derived.Test.YtclpemmpckjemaaDoorBulkV
import Derived.Test.YtclpemmpckjemaaDoorLift
import Derived.ProofKit
import Derived.LaidMore
import Derived.Lay
import Derived.OpenShut
import Derived.ChangeSlices
import Derived.Deep.Slices
import Derived.Lib.SmallJoins
namespace Go.Proofs.YtclpemmpckjemaaDoor
open Go.ChangeShapes Go.WideShapes Go.ChangeAt Go.RowKit Go.Joins Go.Deep

theorem tTab : (Tryd.prog.globals[0]?).map (·.type) = some 61 := by kernel_rfl
theorem cellsTab : Tryd.prog.cellsOf 61 = 16 := by kernel_rfl
theorem cellsU32 : Tryd.prog.cellsOf 46 = 1 := by kernel_rfl
def laid1 : List (String × DataW Unit) := [("bitemporal/frame.halfByteSteps", Rows.laid_bitemporal_frame_halfByteSteps)]
theorem lowSize {w : World} (h : w.ShapedOpen Tryd.prog) : Tryd.prog.globals.size ≤ w.heap.size := by
  rw [Fr.globalsSize]
  have h0 : (((begin Tryd.prog (fun _ _ => 0) default).world.heap[1]?).bind Obj.row?).isSome = true := by kernel_rfl
  obtain ⟨⟨z, t⟩, hz⟩ := Option.isSome_iff_exists.1 h0
  obtain ⟨cs, hh, _⟩ := h.1 1 z t (by rw [Fr.globalsSize]; decide) hz
  rcases Nat.lt_or_ge 1 w.heap.size with h1 | h1
  · exact h1
  · rw [Array.getElem?_eq_none h1] at hh; cases hh
theorem env_of {w : World} (hS : w.ShapedOpen Tryd.prog) (hL : laidMetH Tryd.prog laid1 w) : Fr.Env w := by
  refine ⟨lowSize hS, ?_⟩
  rw [MakeChecks.laidMetH_plain _ _ _ (by kernel_rfl)] at hL
  obtain ⟨ps, ⟨g0, t0, cs0, f0, p0, q0, hg0, ht0, hv0, hd0, _, _⟩, _, _⟩ := hL
  obtain rfl := Option.some.inj (Fr.gTab.symm.trans hg0)
  obtain rfl := Option.some.inj (tTab.symm.trans ht0)
  unfold Lib.TabIs
  rw [hv0, ← Lib.cells_of_tab (k := .u32) (zs := Fr.tabL) Tryd.underlying61 Tryd.underlying46 cellsU32 cellsTab hd0]
set_option maxRecDepth 1000000 in
theorem start_met (os : Os) (args : Array Value) : laidMetH Tryd.prog laid1 ((World.laidAll Tryd.prog os laid1).forCall (fun _ _ => 0) ⟨#[], args, []⟩).memory := by
  rw [MakeChecks.laidMetH_plain _ _ _ (by kernel_rfl)]
  exact laidMet_laidAll _ (by kernel_rfl) (by kernel_rfl)
set_option maxRecDepth 1000000 in
theorem start_shaped (os : Os) : (World.laidAll Tryd.prog os laid1).Shaped Tryd.prog := World.shaped_of_ZipB (by kernel_rfl) (by kernel_rfl)
end Go.Proofs.YtclpemmpckjemaaDoor
