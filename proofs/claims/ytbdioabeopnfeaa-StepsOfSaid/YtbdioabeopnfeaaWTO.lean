/-
  The walk of the statement StepsOf. Conditions: the list is read anywhere below the heap's end.
-/
import Derived.Test.YtbdioabeopnfeaaStMa
import Derived.WalkKit
import Derived.WalkSpells
import Derived.WalkLawsBesides
import Derived.Deep.QuietTactic
import Derived.BigQuiet
import Derived.Handy
import Derived.Lib.Hide
namespace Go.Proofs.Ytbdioabeopnfeaa
open Go.RowKit

set_option maxRecDepth 100000 in
set_option maxHeartbeats 12800000 in
theorem law_of (vl : Value) (l : List Pc)  (w : World) (Ll : Nat) (hvl : RdB w Ll w.heap.size vl l) :
    Calls Try.prog 4 #[vl] w fun e w' => e = .returned (.bool true) ∧ Below w.heap.size w w' := by
  have Hl := Lib.hid hvl
  obtain ⟨Al, cl, rfl, _, _⟩ := hvl
  by_cases hbigl : (l.length : Int) > 24
  · have hbdl : decide ((l.length : Int) > 24) = true := by simp; omega
    go_enter Try.func4, Try.ntmps4
    have hx1 := awake_any w
    go_wp2_with fail
    refine hx1.mono ?_
    rintro e w1 ⟨rfl, hb1⟩
    clear hx1
    replace Hl := Lib.hid (Hl.out.step hb1 (Nat.le_refl _))
    have B1 := hb1
    have Z1 := B1.size
    clear hb1
    go_wp2
    go_ret
    exact ⟨rfl, B1⟩
  have hll : l.length ≤ 24 := by omega
  have hbdl : decide ((l.length : Int) > 24) = false := by simp; omega
  go_enter Try.func4, Try.ntmps4
  have hx2 := pStOf_any _ l _ _ Hl.out (by omega)
  go_wp2_with fail
  refine hx2.mono ?_
  rintro e w2 ⟨v2, rfl, hr2, hb2⟩
  clear hx2
  replace Hl := Lib.hid (Hl.out.step hb2 (Nat.le_refl _))
  have B2 := hb2
  have Z2 := B2.size
  have H2 := Lib.hid hr2
  obtain ⟨A2, c2, rfl, _, _⟩ := hr2
  clear hb2
  have hx3 := rStOf_any _ l _ _ Hl.out (by omega)
  go_wp2_with fail
  refine hx3.mono ?_
  rintro e w3 ⟨v3, rfl, hr3, hb3⟩
  clear hx3
  replace Hl := Lib.hid (Hl.out.step hb3 (Nat.le_refl _))
  replace H2 := Lib.hid (H2.out.step hb3 (Nat.le_refl _))
  have B3 := B2.trans (hb3.mono Z2)
  have Z3 := B3.size
  have H3 := Lib.hid hr3
  obtain ⟨A3, c3, rfl, _, _⟩ := hr3
  clear hb3
  have hx4 := sameT_any _ _ _ _ _ _ _ H2.out H3.out
  rw [decide_eq_true rfl] at hx4
  go_wp2_with fail
  refine hx4.mono ?_
  rintro e w4 ⟨rfl, hb4⟩
  clear hx4
  replace Hl := Lib.hid (Hl.out.step hb4 (Nat.le_refl _))
  replace H2 := Lib.hid (H2.out.step hb4 (Nat.le_refl _))
  replace H3 := Lib.hid (H3.out.step hb4 (Nat.le_refl _))
  have B4 := B3.trans (hb4.mono Z3)
  have Z4 := B4.size
  clear hb4
  have hx5 := awake_any w4
  go_wp2_with fail
  refine hx5.mono ?_
  rintro e w5 ⟨rfl, hb5⟩
  clear hx5
  replace Hl := Lib.hid (Hl.out.step hb5 (Nat.le_refl _))
  replace H2 := Lib.hid (H2.out.step hb5 (Nat.le_refl _))
  replace H3 := Lib.hid (H3.out.step hb5 (Nat.le_refl _))
  have B5 := B4.trans (hb5.mono Z4)
  have Z5 := B5.size
  clear hb5
  go_wp2
  go_ret
  exact ⟨rfl, B5⟩
end Go.Proofs.Ytbdioabeopnfeaa
