import Derived.Test.YtjdbjnmnihnmhaaTA
import Derived.Test.YtjdbjnmnihnmhaaMV
import Derived.WalkKit
import Derived.WalkSpells
import Derived.WalkLawsBesides
import Derived.Deep.QuietTactic
import Derived.BigQuiet
import Derived.Handy
import Derived.Lib.Hide
/-
  withArgs over a function that is handed to it: a tree in new memory. Conditions: lengths.
-/
namespace Go.Proofs.Ytjdbjnmnihnmhaa
set_option maxRecDepth 100000
set_option linter.unusedVariables false
set_option linter.unusedSimpArgs false
open Go.RowKit

end Go.Proofs.Ytjdbjnmnihnmhaa
