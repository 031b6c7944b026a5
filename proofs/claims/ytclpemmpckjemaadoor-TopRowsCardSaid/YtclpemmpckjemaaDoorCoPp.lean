/-
  PutPeriod of the program and of the reference: what each answers. Conditions: numbers of 64 bits; lengths.
-/
import Derived.Test.YtclpemmpckjemaaDoorCo9
import Derived.Test.YtclpemmpckjemaaDoorCo4
import Derived.Outline
import Derived.Deep.RegionWith
import Derived.WalkKit
import Derived.WalkSpells
import Derived.WalkLawsBesides
import Derived.Deep.QuietTactic
import Derived.BigQuiet
import Derived.Handy
import Derived.Lib.Hide
namespace Go.Proofs.YtclpemmpckjemaaDoor
open Go.RowKit

/-- The bytes of a period. -/
def perB (a b : Int) : List UInt8 := vint (zig a) ++ vint (zig b)
end Go.Proofs.YtclpemmpckjemaaDoor
