/-
  The entry of a row of numbers and the row of a row of rows, of an array by value. Conditions: the index is in range.
-/
import Derived.Test.YtmmecpmeemhglaaDoorProg
import Derived.Test.YtmmecpmeemhglaaDoorBase
import Derived.ChangeKeysEq
import Derived.WalkKit
import Derived.WalkSpells
import Derived.WalkLawsBesides
import Derived.Deep.QuietTactic
import Derived.BigQuiet
import Derived.Handy
import Derived.Lib.Hide
namespace Go.Proofs.YtmmecpmeemhglaaDoor
open Go.RowKit

theorem isAgg_run {P : Program} {t : TypeId} {b : Bool} (h : ∀ w, (isAgg t).run P w = .ok b w) (w : World) : (isAgg t).run P w = .ok b w := h w
/-- An entry of one cell. -/
theorem idx_cell {P : Program} {t e : TypeId} {n : Nat} {cs : Array Value} {v : Value} {k : IntKind} {j : Nat} (w : World) (hu : P.underlying t = some (.array n e)) (ha : (isAgg e).run P w = .ok false w) (hs : (sizeOf e).run P w = .ok 1 w) (hj : j < n) (hc : cs[j]? = some v) :
    (Instr.index t (.agg cs) (.int k (j : Int))).run P w = .ok v w := by
  have h1 : (0 : Int) ≤ (j : Int) ∧ (j : Int) < (n : Int) := by omega
  simp [Instr.index, run_underlying hu, asIntOf, h1, go_sem, part, ha, hs, hc, hj]
/-- An entry of many cells. -/
theorem idx_agg {P : Program} {t e : TypeId} {n s : Nat} {cs : Array Value} {k : IntKind} {j : Nat} (w : World) (hu : P.underlying t = some (.array n e)) (ha : (isAgg e).run P w = .ok true w) (hs : (sizeOf e).run P w = .ok s w) (hj : j < n) :
    (Instr.index t (.agg cs) (.int k (j : Int))).run P w = .ok (.agg (cs.extract (j * s) (j * s + s))) w := by
  have h1 : (0 : Int) ≤ (j : Int) ∧ (j : Int) < (n : Int) := by omega
  simp [Instr.index, run_underlying hu, asIntOf, h1, go_sem, part, ha, hs, hj]
end Go.Proofs.YtmmecpmeemhglaaDoor
