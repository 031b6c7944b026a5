import Derived.Test.YteihjneeiojgaaaMT
import Derived.Test.YteihjneeiojgaaaPC
import Derived.Test.YteihjneeiojgaaaSEoA
import Derived.Test.YteihjneeiojgaaaSExUc
import Derived.WalkKit
import Derived.WalkSpells
import Derived.WalkLawsBesides
import Derived.Deep.QuietTactic
import Derived.BigQuiet
import Derived.Handy
import Derived.Lib.Hide
/-
  The reference's Ints and Kinds; Key of both. Conditions: lengths.
-/
namespace Go.Proofs.Yteihjneeiojgaaa
set_option maxRecDepth 100000
set_option linter.unusedVariables false
set_option linter.unusedSimpArgs false
open Go.RowKit

end Go.Proofs.Yteihjneeiojgaaa
