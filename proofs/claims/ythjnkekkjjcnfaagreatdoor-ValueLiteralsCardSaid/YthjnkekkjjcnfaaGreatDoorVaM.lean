/-
  Values: small facts on results that are structs. Conditions: the tables lie as the rows say.
-/
import Derived.Test.YthjnkekkjjcnfaaGreatDoorVaL
import Derived.WalkKit
import Derived.WalkSpells
import Derived.WalkLawsBesides
import Derived.Deep.QuietTactic
import Derived.BigQuiet
import Derived.Handy
import Derived.Lib.Hide
namespace Go.Proofs.YthjnkekkjjcnfaaGreatDoor
open Go.RowKit

theorem nrm_agg (k n : Int) (s : ByteArray) : ∃ (a b : Int) (c : ByteArray), nrm k n s = .agg #[.int .i64 a, .int .i64 b, .string c] := by
  unfold nrm; split
  · exact ⟨_, _, _, rfl⟩
  · exact ⟨_, _, _, rfl⟩
theorem ofT_agg (t : Int) : ∃ (a b : Int) (c : ByteArray), ofT t = .agg #[.int .i64 a, .int .i64 b, .string c] := by
  unfold ofT; split
  · exact ⟨_, _, _, rfl⟩
  · split
    · exact ⟨_, _, _, rfl⟩
    · exact ⟨_, _, _, rfl⟩
theorem eqV_self (k n : Int) (s : ByteArray) : eqV k n s k n s = true := by simp [eqV]
theorem eql_self (k n : Int) (s : ByteArray) (w : World) : (binOp .eql 23 (.agg #[.int .i64 k, .int .i64 n, .string s]) (.agg #[.int .i64 k, .int .i64 n, .string s])).run Tryz.prog w = .ok (.bool true) w := by
  rw [eql_val, eqV_self]
end Go.Proofs.YthjnkekkjjcnfaaGreatDoor
