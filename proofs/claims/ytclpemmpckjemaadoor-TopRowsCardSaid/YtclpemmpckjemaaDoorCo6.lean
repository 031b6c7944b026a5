/-
  The reference's Int: what is read from any bytes at any offset. Conditions: lengths.
-/
import Derived.Test.YtclpemmpckjemaaDoorCo5
import Derived.Outline
import Derived.WalkKit
import Derived.WalkSpells
import Derived.WalkLawsBesides
import Derived.Deep.QuietTactic
import Derived.BigQuiet
import Derived.Handy
import Derived.Lib.Hide
namespace Go.Proofs.YtclpemmpckjemaaDoor
open Go.RowKit

theorem add_shift (Z b k : Nat) (hZ : Z < 128 ^ k) (hk : k ≤ 9) (hb : k = 9 → b % 128 ≤ 1) : IntKind.u64.wrap ((b : Int) % 128 * ((128 ^ k : Nat) : Int)) = ((b % 128 * 128 ^ k : Nat) : Int) ∧ Z + b % 128 * 128 ^ k < 18446744073709551616 := by
  obtain ⟨_, h2⟩ := or_shift Z b k hZ hk hb
  refine ⟨?_, h2⟩
  rw [show (b : Int) % 128 * ((128 ^ k : Nat) : Int) = ((b % 128 * 128 ^ k : Nat) : Int) by rw [Int.natCast_mul, Int.natCast_emod]; rfl, IntKind.wrap_u64]
  omega
end Go.Proofs.YtclpemmpckjemaaDoor
