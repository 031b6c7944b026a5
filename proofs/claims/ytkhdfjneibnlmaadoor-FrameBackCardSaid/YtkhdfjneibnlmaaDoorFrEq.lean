/-
  equal and lists of the statements: what they answer where both sides hold the same bytes. Conditions: none.
-/
import Derived.Test.YtkhdfjneibnlmaaDoorFrW
import Derived.WalkKit
import Derived.WalkSpells
import Derived.WalkLawsBesides
import Derived.Deep.QuietTactic
import Derived.BigQuiet
import Derived.Handy
import Derived.Lib.Hide
namespace Go.Proofs.YtkhdfjneibnlmaaDoor
open Go.RowKit

set_option maxHeartbeats 800000 in
theorem equal_any (v u : Value) (l : List UInt8) (w : World) (L B L2 B2 : Nat) (hv : RdB w L B v l) (hu : RdB w L2 B2 u l) : Calls Tryd.prog 14 #[v, u] w fun e w' => e = .returned (.bool true) ∧ w' = w := by
  have h1 := conv_rdB hv
  have h2 := conv_rdB hu
  generalize ByteArray.mk l.toArray = s at *
  obtain ⟨A, c, rfl, _⟩ := hv
  obtain ⟨A2, c2, rfl, _⟩ := hu
  go_enter Tryd.func14, Tryd.ntmps14
  go_wp2
  go_ret
  exact ⟨by simp, rfl⟩
end Go.Proofs.YtkhdfjneibnlmaaDoor
