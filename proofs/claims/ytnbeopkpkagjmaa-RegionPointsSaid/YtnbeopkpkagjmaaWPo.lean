import Derived.Test.YtnbeopkpkagjmaaWPt
import Derived.Test.YtnbeopkpkagjmaaWPu
import Derived.Test.YtnbeopkpkagjmaaWPv
import Derived.Test.YtnbeopkpkagjmaaWPw
import Derived.WalkKit
import Derived.WalkSpells
import Derived.WalkLawsBesides
import Derived.Deep.QuietTactic
import Derived.BigQuiet
import Derived.Handy
import Derived.Lib.Hide
/-
  The walk of the statement RegionPoints. Conditions: none. (Written by mkRgP.py.)
-/
namespace Go.Proofs.Ytnbeopkpkagjmaa
set_option maxRecDepth 100000
set_option linter.unusedVariables false
set_option linter.unusedSimpArgs false
open Go.RowKit

set_option maxRecDepth 100000 in
set_option maxHeartbeats 6400000 in
theorem law_points (va vb : Value) (a b : List Rc) (p q : Int) (w : World) (La Lb : Nat) (hva : RdR w La w.heap.size va a) (hvb : RdR w Lb w.heap.size vb b) :
    Calls Try.prog 3 #[va, vb, .agg #[.int .i64 p, .int .i64 q]] w fun e w' => e = .returned (.bool true) ∧ Below w.heap.size w w' := by
  by_cases hbiga : (a.length : Int) > 12
  · have hbda : decide ((a.length : Int) > 12) = true := by simp; omega
    have bV : Below w.heap.size w (w.alloc (.cells #[.int .i64 p, .int .i64 q] 24)) := (Below.refl _ _).alloc (Nat.le_refl _) _
    obtain ⟨Aa, ca, rfl, _, _⟩ := hva
    obtain ⟨Ab, cb, rfl, _, _⟩ := hvb
    go_enter Try.func3, Try.ntmps3
    go_wp2_with fail
    refine (awake_any _).mono ?_
    rintro e w1 ⟨rfl, hb1⟩
    go_wp2
    go_ret
    exact ⟨rfl, bV.trans (hb1.mono bV.size)⟩
  have hbda : decide ((a.length : Int) > 12) = false := by simp; omega
  by_cases hbigb : (b.length : Int) > 12
  · have hbdb : decide ((b.length : Int) > 12) = true := by simp; omega
    have bV : Below w.heap.size w (w.alloc (.cells #[.int .i64 p, .int .i64 q] 24)) := (Below.refl _ _).alloc (Nat.le_refl _) _
    obtain ⟨Aa, ca, rfl, _, _⟩ := hva
    obtain ⟨Ab, cb, rfl, _, _⟩ := hvb
    go_enter Try.func3, Try.ntmps3
    go_wp2_with fail
    refine (awake_any _).mono ?_
    rintro e w1 ⟨rfl, hb1⟩
    go_wp2
    go_ret
    exact ⟨rfl, bV.trans (hb1.mono bV.size)⟩
  have hbdb : decide ((b.length : Int) > 12) = false := by simp; omega
  cases hx : memR a p q <;> cases hy : memR b p q
  · exact pointsff va vb a b p q w La Lb hva hvb (by omega) (by omega) hx hy
  · exact pointsft va vb a b p q w La Lb hva hvb (by omega) (by omega) hx hy
  · exact pointstf va vb a b p q w La Lb hva hvb (by omega) (by omega) hx hy
  · exact pointstt va vb a b p q w La Lb hva hvb (by omega) (by omega) hx hy
end Go.Proofs.Ytnbeopkpkagjmaa
