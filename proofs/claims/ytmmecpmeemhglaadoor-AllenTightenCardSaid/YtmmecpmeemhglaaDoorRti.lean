/-
  Contract of the reference's Tighten where the number or the constraints are not valid. Conditions: none.
-/
import Derived.Test.YtmmecpmeemhglaaDoorTgA
import Derived.Test.YtmmecpmeemhglaaDoorRval
import Derived.WalkKit
import Derived.WalkSpells
import Derived.WalkLawsBesides
import Derived.Deep.QuietTactic
import Derived.BigQuiet
import Derived.Handy
import Derived.Lib.Hide
namespace Go.Proofs.YtmmecpmeemhglaaDoor
open Go.RowKit

set_option maxRecDepth 100000 in
set_option maxHeartbeats 800000 in
theorem rtight_low (n : Int) (v : Value) (w : World) (h1 : n < 1) :
    Calls Tryd.prog 26 #[.int .i64 n, v] w fun e w' => e = .returned (.tuple #[.slice none 0 0, .bool false]) ∧ Below w.heap.size w w' := by
  go_enter Tryd.func26, Tryd.ntmps26
  go_wp2
  go_ret2
  exact ⟨rfl, Below.refl _ _⟩
set_option maxRecDepth 100000 in
set_option maxHeartbeats 800000 in
theorem rtight_high (n : Int) (v : Value) (w : World) (h0 : ¬ n < 1) (h1 : n > 8) :
    Calls Tryd.prog 26 #[.int .i64 n, v] w fun e w' => e = .returned (.tuple #[.slice none 0 0, .bool false]) ∧ Below w.heap.size w w' := by
  go_enter Tryd.func26, Tryd.ntmps26
  go_wp2
  go_ret2
  exact ⟨rfl, Below.refl _ _⟩
set_option maxRecDepth 100000 in
set_option maxHeartbeats 800000 in
theorem rtight_bad (n : Int) (v : Value) (l : List Con) (w : World) (L : Nat) (hv : RdC w L w.heap.size v l) (h0 : ¬ n < 1) (h1 : ¬ n > 8) (hok : okL n l = false) :
    Calls Tryd.prog 26 #[.int .i64 n, v] w fun e w' => e = .returned (.tuple #[.slice none 0 0, .bool false]) ∧ Below w.heap.size w w' := by
  have hx := rvalidC_any n v l w L hv
  rw [hok] at hx
  go_enter Tryd.func26, Tryd.ntmps26
  go_wp2_with fail
  refine hx.mono ?_
  rintro e w1 ⟨rfl, hb1⟩
  go_wp2
  go_ret2
  exact ⟨rfl, hb1⟩
end Go.Proofs.YtmmecpmeemhglaaDoor
