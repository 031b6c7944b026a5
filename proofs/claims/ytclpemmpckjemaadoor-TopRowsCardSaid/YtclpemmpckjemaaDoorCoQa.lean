/-
  Period of the program and of the reference: what is read from any bytes at any offset. Conditions: lengths.
-/
import Derived.Test.YtclpemmpckjemaaDoorCo5
import Derived.Test.YtclpemmpckjemaaDoorCo6
import Derived.Outline
import Derived.WalkKit
import Derived.WalkSpells
import Derived.WalkLawsBesides
import Derived.Deep.QuietTactic
import Derived.BigQuiet
import Derived.Handy
import Derived.Lib.Hide
namespace Go.Proofs.YtclpemmpckjemaaDoor
open Go.RowKit

theorem results_cell_row3 {fn : Func} {p u v : Tmp} {ty : TypeId} (h : fn.results = #[.cell p ty, .tmp u, .tmp v]) (tmps : Array Value) (w : World) (g : Nat) (cs : Array Value) (hp : tmps.getD p undef = .pointer (some ⟨g, 0, none⟩))
    (hl : (loadVar ty ⟨g, 0, none⟩).run Tryd.prog w = .ok (.agg cs) w) : (results fn tmps).run Tryd.prog w = .ok (.tuple #[.agg cs, tmps.getD u undef, tmps.getD v undef]) w := by
  have hp' : tmps[p]?.getD undef = .pointer (some ⟨g, 0, none⟩) := by simpa using hp
  simp [results, h, hp', asAddr, hl]
/-- What Period answers: the error, both ends, where the next begins. -/
def perF (l : List UInt8) (i : Int) : Nat × Int × Int × Nat :=
  if (intF l i).1 = 0 then if (intF l (intF l i).2.2).1 = 0 then if vld (intF l i).2.1 (intF l (intF l i).2.2).2.1 then (0, (intF l i).2.1, (intF l (intF l i).2.2).2.1, (intF l (intF l i).2.2).2.2) else (6, 0, 0, 0) else ((intF l (intF l i).2.2).1, 0, 0, 0) else ((intF l i).1, 0, 0, 0)
def perR (x : Nat × Int × Int × Nat) : Value := .tuple #[.agg #[.int .i64 x.2.1, .int .i64 x.2.2.1], .int .i64 (x.2.2.2 : Nat), .int .i64 (x.1 : Nat)]
end Go.Proofs.YtclpemmpckjemaaDoor
