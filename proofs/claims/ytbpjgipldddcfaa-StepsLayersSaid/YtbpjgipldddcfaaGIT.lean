import Derived.Test.YtbpjgipldddcfaaGSP
import Derived.Test.YtbpjgipldddcfaaGA
import Derived.Test.YtbpjgipldddcfaaGIn
import Derived.StillTailTactics
import Derived.WalkKit
import Derived.WalkSpells
import Derived.WalkLawsBesides
import Derived.Deep.QuietTactic
import Derived.BigQuiet
import Derived.Handy
import Derived.Lib.Hide
/-
  Contracts of the reference's Insert and Points: the bounds in ascending order, each once. Conditions: the lists hold at most a million elements.
-/
namespace Go.Proofs.Ytbpjgipldddcfaa
set_option maxRecDepth 100000
set_option linter.unusedVariables false
set_option linter.unusedSimpArgs false
open Go.RowKit

end Go.Proofs.Ytbpjgipldddcfaa
/-
  Contracts of the reference's pointwise combinations. Conditions: at most 100000 steps each.
-/
namespace Go.Proofs.Ytbpjgipldddcfaa
set_option maxRecDepth 100000
set_option linter.unusedVariables false
set_option linter.unusedSimpArgs false
open Go.RowKit

def opV (kd x y : Int) : Int := if kd = 1 then IntKind.i64.wrap (x + y) else if kd = 2 then IntKind.i64.wrap (x - y) else if kd = 3 then min x y else max x y
theorem wrap64_eq (n : Int) : wrap64 n = IntKind.i64.wrap n := by rw [IntKind.wrap_i64]; unfold wrap64; omega
def insAll (acc : List Int) (l : List (Int × Int)) : List Int := l.foldl (fun p s => insI s.1 p) acc
theorem insAll_step {acc : List Int} {l : List (Int × Int)} {k : Nat} {p : Int × Int} (h : l[k]? = some p) : insAll acc (l.take (k + 1)) = insI p.1 (insAll acc (l.take k)) := by
  rw [take_snocP h]; unfold insAll; rw [List.foldl_append]; rfl
theorem insAll_len (acc : List Int) : ∀ l : List (Int × Int), (insAll acc l).length ≤ acc.length + l.length := by
  intro l
  induction l generalizing acc with
  | nil => simp [insAll]
  | cons p l ih =>
    have h1 := ih (insI p.1 acc)
    have h2 := insI_len p.1 acc
    show (insAll (insI p.1 acc) l).length ≤ _
    simp only [List.length_cons]
    omega
/-- The points of two lists, ascending, each once. -/
def ptsS (a b : List (Int × Int)) : List Int := insAll (insAll [] a) b

end Go.Proofs.Ytbpjgipldddcfaa
