import Derived.Test.YthnmcpfmljibeaaTA
import Derived.Test.YthnmcpfmljibeaaMT
import Derived.Deep.AppendLies
import Derived.WalkKit
import Derived.WalkSpells
import Derived.WalkLawsBesides
import Derived.Deep.QuietTactic
import Derived.BigQuiet
import Derived.Handy
import Derived.Lib.Hide
import Derived.Lib.SlicesCompact
import Derived.Test.YthnmcpfmljibeaaMB
import Derived.Laws.OwnMore
/-
  The columns of a tree, gathered by visit and its closure. Conditions: lengths, a bounded depth.
-/
namespace Go.Proofs.Ythnmcpfmljibeaa
set_option maxRecDepth 100000
set_option linter.unusedVariables false
set_option linter.unusedSimpArgs false
open Go.RowKit

end Go.Proofs.Ythnmcpfmljibeaa
/-
  Ascending lists of numbers. Conditions: none.
-/
namespace Go.Proofs.Ythnmcpfmljibeaa
set_option maxRecDepth 100000
set_option linter.unusedVariables false
set_option linter.unusedSimpArgs false
open Go.Lib

end Go.Proofs.Ythnmcpfmljibeaa
/-
  Columns of the program: the visit, sorted, its runs made single. Conditions: lengths, a bounded depth.
-/
namespace Go.Proofs.Ythnmcpfmljibeaa
set_option maxRecDepth 100000
set_option linter.unusedVariables false
set_option linter.unusedSimpArgs false
open Go.RowKit Go.Sort Go.Lib

end Go.Proofs.Ythnmcpfmljibeaa
/-
  The reference's insert: a number into an ascending list. Conditions: lengths.
-/
namespace Go.Proofs.Ythnmcpfmljibeaa
set_option maxRecDepth 100000
set_option linter.unusedVariables false
set_option linter.unusedSimpArgs false
open Go.RowKit

end Go.Proofs.Ythnmcpfmljibeaa
