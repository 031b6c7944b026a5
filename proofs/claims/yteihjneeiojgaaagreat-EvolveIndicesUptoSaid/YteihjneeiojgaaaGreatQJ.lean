import Derived.Test.YteihjneeiojgaaaGreatQH
import Derived.Test.YteihjneeiojgaaaGreatME
import Derived.WalkKit
import Derived.WalkSpells
import Derived.WalkLawsBesides
import Derived.Deep.QuietTactic
import Derived.BigQuiet
import Derived.Handy
import Derived.Lib.Hide
/-
  The reference's arity of operators, its own fields, its depth. Conditions: at most 2 to the 40th arguments, a bounded depth.
-/
namespace Go.Proofs.YteihjneeiojgaaaGreat
set_option maxRecDepth 100000
set_option linter.unusedVariables false
set_option linter.unusedSimpArgs false
open Go.RowKit

/-- The reference's own bounds. -/
def arLo (op : Int) : Int := if knw op then opLo op else -1
def arHi (op : Int) : Int := if op = 5 ∨ op = 6 ∨ op = 23 then 1099511627776 else if knw op then opHi op else 0
set_option maxRecDepth 100000 in
set_option maxHeartbeats 12800000 in
theorem rArity_any (op : Int) (w : World) : Calls Tryz.prog 103 #[.int .i64 op] w fun e w' => e = .returned (.tuple #[.int .i64 (arLo op), .int .i64 (arHi op)]) ∧ Below w.heap.size w w' := by
  rcases op_cases op with rfl | rfl | rfl | rfl | rfl | rfl | rfl | rfl | rfl | rfl | rfl | rfl | rfl | rfl | rfl | rfl | rfl | rfl | rfl | rfl | rfl | rfl | rfl | ⟨h1, h2, h3, h4, h5, h6, h7, h8, h9, h10, h11, h12, h13, h14, h15, h16, h17, h18, h19, h20, h21, h22, h23⟩
  rotate_right
  · have k0 : knw op = false := by simp only [knw, Bool.or_eq_false_iff, beq_eq_false_iff_ne]; omega
    have k1 : arLo op = -1 ∧ arHi op = 0 := by unfold arLo arHi; rw [k0, if_neg (by simp), if_neg (by omega), if_neg (by simp)]; exact ⟨rfl, rfl⟩
    rw [k1.1, k1.2]
    clear k0 k1
    simp only [← beq_eq_false_iff_ne] at *
    go_enter Tryz.func103, Tryz.ntmps103
    go_wp2
    go_ret2
    refine ⟨rfl, ?_⟩
    (repeat' (first | (with_reducible exact Below.refl _ _) | (with_reducible assumption) | (with_reducible refine Below.alloc ?_ ?_ _) | (with_reducible refine Below.drew ?_) | (with_reducible refine Below.setCell ?_ ?_ _) | (with_reducible refine Below.trans ?_ (Below.mono (by assumption) ?_)) | go_size))
  all_goals
    (go_enter Tryz.func103, Tryz.ntmps103
     go_wp2
     go_ret2
     refine ⟨rfl, ?_⟩
     (repeat' (first | (with_reducible exact Below.refl _ _) | (with_reducible assumption) | (with_reducible refine Below.alloc ?_ ?_ _) | (with_reducible refine Below.drew ?_) | (with_reducible refine Below.setCell ?_ ?_ _) | (with_reducible refine Below.trans ?_ (Below.mono (by assumption) ?_)) | go_size)))
end Go.Proofs.YteihjneeiojgaaaGreat
