/-
  The walk of the statement AllenCompose. Conditions: the table of keywords reads as the program lays it (Env).
-/
import Derived.Test.YtekbndmibgjnpaaDoorRcm
import Derived.Test.YtekbndmibgjnpaaDoorInts
import Derived.Test.YtekbndmibgjnpaaDoorAwkA
import Derived.WalkKit
import Derived.WalkSpells
import Derived.WalkLawsBesides
import Derived.Deep.QuietTactic
import Derived.BigQuiet
import Derived.Handy
import Derived.Lib.Hide
namespace Go.Proofs.YtekbndmibgjnpaaDoor
open Go.RowKit

set_option maxRecDepth 100000 in
set_option maxHeartbeats 1600000 in
theorem law_compose (a b : Int) (w : World) (henv : Env w) :
    Calls Tryd.prog 6 #[.int .i64 a, .int .i64 b] w fun e w' => e = .returned (.bool true) ∧ Below w.heap.size w w' := by
  have h1 := cmp_rel a b w
  have h2 := fun W => rcmp_any a b W
  generalize cmpL a b = l at *
  go_enter Tryd.func6, Tryd.ntmps6
  go_wp2_with fail
  refine h1.mono ?_
  rintro e w1 ⟨v1, rfl, hr1, hb1⟩
  have H1 := Lib.hid hr1
  clear hr1 h1
  go_wp2_with fail
  refine (h2 _).mono ?_
  rintro e w2 ⟨v2, rfl, hr2, hb2⟩
  have H1' := Lib.hid ((H1.out.below hb2).more hb2.size (Nat.le_refl _))
  have H2 := Lib.hid hr2
  have B2 := hb1.trans (hb2.mono hb1.size)
  clear hr2 h2 H1
  have hx := ints_any v1 v2 l l w2 _ _ H1'.out H2.out
  rw [decide_eq_true rfl] at hx
  go_wp2_with fail
  refine hx.mono ?_
  rintro e w3 ⟨rfl, hb3⟩
  clear hx
  have B3 := B2.trans (hb3.mono B2.size)
  go_wp2_with fail
  refine (awake_any _ (henv.step B3)).mono ?_
  rintro e w4 ⟨rfl, hb4⟩
  go_wp2_with fail
  go_ret
  exact ⟨rfl, B3.trans (hb4.mono B3.size)⟩
end Go.Proofs.YtekbndmibgjnpaaDoor
