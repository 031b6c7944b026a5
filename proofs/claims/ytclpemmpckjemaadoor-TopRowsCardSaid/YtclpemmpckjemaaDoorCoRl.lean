import Derived.Test.YtclpemmpckjemaaDoorCoRa
import Derived.Test.YtclpemmpckjemaaDoorCoW
import Derived.Test.YtclpemmpckjemaaDoorCo6
import Derived.WalkKit
import Derived.WalkSpells
import Derived.WalkLawsBesides
import Derived.Deep.QuietTactic
import Derived.BigQuiet
import Derived.Handy
import Derived.Lib.Hide
/-
  The walk of the statement CodecRows. Conditions: lengths.
-/
namespace Go.Proofs.YtclpemmpckjemaaDoor
open Go.RowKit

theorem encR_len (ps : List Vl) (h : okL ps = true) (hp : ps.length ≤ 140737488355100) : (encR ps).length ≤ 10 + szL ps := by
  unfold encR
  have h1 := encs_len ps h
  have h2 := vint_len10 (zig_lt (show I64 (ps.length : Int) from ⟨by omega, by omega⟩))
  rw [List.length_append]; omega
end Go.Proofs.YtclpemmpckjemaaDoor
