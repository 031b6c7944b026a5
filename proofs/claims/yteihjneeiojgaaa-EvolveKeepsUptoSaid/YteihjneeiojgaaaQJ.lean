import Derived.Test.YteihjneeiojgaaaQH
import Derived.Test.YteihjneeiojgaaaME
import Derived.WalkKit
import Derived.WalkSpells
import Derived.WalkLawsBesides
import Derived.Deep.QuietTactic
import Derived.BigQuiet
import Derived.Handy
import Derived.Lib.Hide
/-
  The reference's arity of operators, its own fields, its depth. Conditions: at most 2 to the 40th arguments, a bounded depth.
-/
namespace Go.Proofs.Yteihjneeiojgaaa
set_option maxRecDepth 100000
set_option linter.unusedVariables false
set_option linter.unusedSimpArgs false
open Go.RowKit

/-- The reference's own bounds. -/
def arLo (op : Int) : Int := if knw op then opLo op else -1
def arHi (op : Int) : Int := if op = 5 ∨ op = 6 ∨ op = 23 then 1099511627776 else if knw op then opHi op else 0
end Go.Proofs.Yteihjneeiojgaaa
