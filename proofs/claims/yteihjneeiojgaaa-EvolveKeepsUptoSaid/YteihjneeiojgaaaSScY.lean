import Derived.Test.YteihjneeiojgaaaSExUc
import Derived.WalkKit
import Derived.WalkSpells
import Derived.WalkLawsBesides
import Derived.Deep.QuietTactic
import Derived.BigQuiet
import Derived.Handy
import Derived.Lib.Hide
/-
  The reference's Words, in and Name: what they answer. Conditions: none.
-/
namespace Go.Proofs.Yteihjneeiojgaaa
set_option maxRecDepth 100000
set_option linter.unusedVariables false
set_option linter.unusedSimpArgs false
open Go.RowKit

def strV (l : List UInt8) : Value := .string ⟨l.toArray⟩
end Go.Proofs.Yteihjneeiojgaaa
