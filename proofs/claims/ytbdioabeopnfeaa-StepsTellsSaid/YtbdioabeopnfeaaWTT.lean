/-
  The walk of the statement StepsTells. Conditions: the list is read anywhere below the heap's end.
-/
import Derived.Test.YtbdioabeopnfeaaStMa
import Derived.WalkKit
import Derived.WalkSpells
import Derived.WalkLawsBesides
import Derived.Deep.QuietTactic
import Derived.BigQuiet
import Derived.Handy
import Derived.Lib.Hide
namespace Go.Proofs.Ytbdioabeopnfeaa
open Go.RowKit

set_option maxRecDepth 100000 in
set_option maxHeartbeats 12800000 in
theorem law_tells (vl : Value) (l : List (Int × Int)) (t : Int) (w : World) (Ll : Nat) (hvl : RdP w Ll w.heap.size vl l) :
    Calls Try.prog 3 #[vl, .int .i64 t] w fun e w' => e = .returned (.bool true) ∧ Below w.heap.size w w' := by
  have Hl := Lib.hid hvl
  obtain ⟨Al, cl, rfl, _, _⟩ := hvl
  by_cases hbigl : (l.length : Int) > 24
  · have hbdl : decide ((l.length : Int) > 24) = true := by simp; omega
    go_enter Try.func3, Try.ntmps3
    have hx1 := awake_any w
    go_wp2_with fail
    refine hx1.mono ?_
    rintro e w1 ⟨rfl, hb1⟩
    clear hx1
    replace Hl := Lib.hid (Hl.out.step hb1 (Nat.le_refl _))
    have B1 := hb1
    have Z1 := B1.size
    clear hb1
    go_wp2
    go_ret
    exact ⟨rfl, B1⟩
  have hll : l.length ≤ 24 := by omega
  have hbdl : decide ((l.length : Int) > 24) = false := by simp; omega
  cases hV : stV l
  · skip
    go_enter Try.func3, Try.ntmps3
    have hx2 := rStValid_any _ l _ _ Hl.out
    rw [hV] at hx2
    go_wp2_with fail
    refine hx2.mono ?_
    rintro e w2 ⟨rfl, hb2⟩
    clear hx2
    replace Hl := Lib.hid (Hl.out.step hb2 (Nat.le_refl _))
    have B2 := hb2
    have Z2 := B2.size
    clear hb2
    have hx3 := pStValid_any _ l _ _ Hl.out
    rw [hV] at hx3
    go_wp2_with fail
    refine hx3.mono ?_
    rintro e w3 ⟨rfl, hb3⟩
    clear hx3
    replace Hl := Lib.hid (Hl.out.step hb3 (Nat.le_refl _))
    have B3 := B2.trans (hb3.mono Z2)
    have Z3 := B3.size
    clear hb3
    have hx4 := awake_any w3
    go_wp2_with fail
    refine hx4.mono ?_
    rintro e w4 ⟨rfl, hb4⟩
    clear hx4
    replace Hl := Lib.hid (Hl.out.step hb4 (Nat.le_refl _))
    have B4 := B3.trans (hb4.mono Z3)
    have Z4 := B4.size
    clear hb4
    go_wp2
    go_ret
    exact ⟨rfl, B4⟩
  · skip
    go_enter Try.func3, Try.ntmps3
    have hx5 := rStValid_any _ l _ _ Hl.out
    rw [hV] at hx5
    go_wp2_with fail
    refine hx5.mono ?_
    rintro e w5 ⟨rfl, hb5⟩
    clear hx5
    replace Hl := Lib.hid (Hl.out.step hb5 (Nat.le_refl _))
    have B5 := hb5
    have Z5 := B5.size
    clear hb5
    have hx6 := pStValid_any _ l _ _ Hl.out
    rw [hV] at hx6
    go_wp2_with fail
    refine hx6.mono ?_
    rintro e w6 ⟨rfl, hb6⟩
    clear hx6
    replace Hl := Lib.hid (Hl.out.step hb6 (Nat.le_refl _))
    have B6 := B5.trans (hb6.mono Z5)
    have Z6 := B6.size
    clear hb6
    have hx7 := pAt_any _ l t _ _ Hl.out (stV_srt hV) (by omega)
    go_wp2_with fail
    refine hx7.mono ?_
    rintro e w7 ⟨rfl, hb7⟩
    clear hx7
    replace Hl := Lib.hid (Hl.out.step hb7 (Nat.le_refl _))
    have B7 := B6.trans (hb7.mono Z6)
    have Z7 := B7.size
    clear hb7
    have hx8 := rStAt_any _ l t _ _ Hl.out
    go_wp2_with fail
    refine hx8.mono ?_
    rintro e w8 ⟨rfl, hb8⟩
    clear hx8
    replace Hl := Lib.hid (Hl.out.step hb8 (Nat.le_refl _))
    have B8 := B7.trans (hb8.mono Z7)
    have Z8 := B8.size
    clear hb8
    have e1 : (atV l t == atV l t) = true := by simp
    have hx9 := awake_any w8
    go_wp2_with fail
    refine hx9.mono ?_
    rintro e w9 ⟨rfl, hb9⟩
    clear hx9
    replace Hl := Lib.hid (Hl.out.step hb9 (Nat.le_refl _))
    have B9 := B8.trans (hb9.mono Z8)
    have Z9 := B9.size
    clear hb9
    go_wp2
    go_ret
    exact ⟨rfl, B9⟩
end Go.Proofs.Ytbdioabeopnfeaa
