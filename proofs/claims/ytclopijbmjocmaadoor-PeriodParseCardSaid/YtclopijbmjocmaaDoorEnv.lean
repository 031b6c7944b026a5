/-
  What the statements' rows give of the package-level variables (a table of powers of ten; a number of the string search), and that calls which write nothing old keep it. Conditions: none.
-/
import Derived.Test.YtclopijbmjocmaaDoorProg
import Derived.Test.YtclopijbmjocmaaDoorBase
import Derived.Lib.SmallJoins
import Derived.Lib.AppendIntMem
import Derived.WalkSmall
namespace Go.Proofs.YtclopijbmjocmaaDoor
open Go.RowKit

theorem gPow : Tryd.prog.globalNamed "internal/strconv.uint64pow10" = some 0 := by kernel_rfl

/-- The table of powers of ten reads as the program's text lays it; the search's number is some int; the variables lie below the heap's end. -/
structure Env (w : World) : Prop where
  low : Tryd.prog.globals.size ≤ w.heap.size
  tab : Lib.TabIs Tryd.prog w "internal/strconv.uint64pow10" .u64 Lib.pow10Tab
  cut : ∃ m : Int, w.cell? ⟨1, 0, none⟩ = some (.int .i64 m)

theorem globalsSize : Tryd.prog.globals.size = 4 := by kernel_rfl

theorem Env.four {w : World} (h : Env w) : 4 ≤ w.heap.size := by have := h.low; rw [globalsSize] at this; exact this

theorem Env.step {w w' : World} (h : Env w) (hb : Below w.heap.size w w') : Env w' :=
  ⟨Nat.le_trans h.low hb.size, Lib.tabBelow_of_tabIs h.tab w' hb, by
    obtain ⟨m, hm⟩ := h.cut
    have h4 := h.four
    exact ⟨m, by rw [hb.cell (p := ⟨1, 0, none⟩) (show (1 : Nat) < w.heap.size by omega)]; exact hm⟩⟩
end Go.Proofs.YtclopijbmjocmaaDoor
