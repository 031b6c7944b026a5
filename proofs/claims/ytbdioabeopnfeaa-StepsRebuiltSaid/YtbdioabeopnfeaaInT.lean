/-
  Contracts of the reference's Insert and Points: the bounds in ascending order, each once. Conditions: the lists hold at most a million elements.
-/
import Derived.Test.YtbdioabeopnfeaaStP
import Derived.Test.YtbdioabeopnfeaaSpM
import Derived.Test.YtbdioabeopnfeaaInsS
import Derived.StillTailTactics
import Derived.WalkKit
import Derived.WalkSpells
import Derived.WalkLawsBesides
import Derived.Deep.QuietTactic
import Derived.BigQuiet
import Derived.Handy
import Derived.Lib.Hide
namespace Go.Proofs.Ytbdioabeopnfeaa
open Go.RowKit

end Go.Proofs.Ytbdioabeopnfeaa
