/-
  The walk of the statement SpanOf. Conditions: the list is read anywhere below the heap's end.
-/
import Derived.Test.YtpbccbhhjnlcpaaAwkS
import Derived.Test.YtpbccbhhjnlcpaaValS
import Derived.WalkKit
import Derived.WalkSpells
import Derived.WalkLawsBesides
import Derived.Deep.QuietTactic
import Derived.BigQuiet
import Derived.Handy
import Derived.Lib.Hide
namespace Go.Proofs.Ytpbccbhhjnlcpaa
open Go.RowKit

set_option maxRecDepth 100000 in
set_option maxHeartbeats 6400000 in
theorem law_of (vl : Value) (l : List (Int × Int)) (w : World) (Ll : Nat) (hvl : RdP w Ll w.heap.size vl l) :
    Calls Try.prog 4 #[vl] w fun e w' => e = .returned (.bool true) ∧ Below w.heap.size w w' := by
  have Hl := Lib.hid hvl
  obtain ⟨Al, cl, rfl, _, _⟩ := hvl
  by_cases hbigl : (l.length : Int) > 30
  · have hbdl : decide ((l.length : Int) > 30) = true := by simp; omega
    go_enter Try.func4, Try.ntmps4
    go_wp2_with fail
    refine (awake_any _).mono ?_
    rintro e w1 ⟨rfl, hb1⟩
    go_wp2
    go_ret
    exact ⟨rfl, hb1⟩
  have hll : l.length ≤ 30 := by omega
  have hbdl : decide ((l.length : Int) > 30) = false := by simp; omega
  go_enter Try.func4, Try.ntmps4
  go_wp2_with fail
  have hx1 := sOf_any _ l _ _ Hl.out (by omega)
  refine hx1.mono ?_
  rintro e w1 ⟨v1, rfl, hr1, hb1⟩
  clear hx1
  replace Hl := Lib.hid (Hl.out.step hb1 (Nat.le_refl _))
  have Bw1 := hb1
  have Zw1 := Bw1.size
  have H1 := Lib.hid hr1
  clear hr1
  clear hb1
  go_wp2_with fail
  have hx2 := rOf_any _ l _ _ Hl.out (by omega)
  refine hx2.mono ?_
  rintro e w2 ⟨v2, rfl, hr2, hb2⟩
  clear hx2
  replace Hl := Lib.hid (Hl.out.step hb2 (Nat.le_refl _))
  replace H1 := Lib.hid (H1.out.step hb2 (Nat.le_refl _))
  have Bw2 := Bw1.trans (hb2.mono Zw1)
  have Zw2 := Bw2.size
  have H2 := Lib.hid hr2
  clear hr2
  clear hb2
  go_wp2_with fail
  have hx3 := sameP_any v1 v2 _ _ _ _ _ H1.out H2.out
  rw [decide_eq_true rfl] at hx3
  refine hx3.mono ?_
  rintro e w3 ⟨rfl, hb3⟩
  clear hx3
  replace Hl := Lib.hid (Hl.out.step hb3 (Nat.le_refl _))
  replace H1 := Lib.hid (H1.out.step hb3 (Nat.le_refl _))
  replace H2 := Lib.hid (H2.out.step hb3 (Nat.le_refl _))
  have Bw3 := Bw2.trans (hb3.mono Zw2)
  have Zw3 := Bw3.size
  clear hb3
  clear H1
  clear H2
  go_wp2_with fail
  have hx4 := sLen_any _ l _ _ Hl.out (by omega)
  refine hx4.mono ?_
  rintro e w4 ⟨rfl, hb4⟩
  clear hx4
  replace Hl := Lib.hid (Hl.out.step hb4 (Nat.le_refl _))
  have Bw4 := Bw3.trans (hb4.mono Zw3)
  have Zw4 := Bw4.size
  clear hb4
  go_wp2_with fail
  have hx5 := rLen_any _ l _ _ Hl.out (by omega)
  refine hx5.mono ?_
  rintro e w5 ⟨rfl, hb5⟩
  clear hx5
  replace Hl := Lib.hid (Hl.out.step hb5 (Nat.le_refl _))
  have Bw5 := Bw4.trans (hb5.mono Zw4)
  have Zw5 := Bw5.size
  clear hb5
  have e1 : (lenL l == lenL l) = true := by simp
  go_wp2_with fail
  have hx6 := sPts_any _ l _ _ Hl.out (by omega)
  refine hx6.mono ?_
  rintro e w6 ⟨v6, rfl, hr6, hb6⟩
  clear hx6
  replace Hl := Lib.hid (Hl.out.step hb6 (Nat.le_refl _))
  have Bw6 := Bw5.trans (hb6.mono Zw5)
  have Zw6 := Bw6.size
  have H6 := Lib.hid hr6
  clear hr6
  clear hb6
  go_wp2_with fail
  have hx7 := rPts_any _ l _ _ Hl.out (by omega)
  refine hx7.mono ?_
  rintro e w7 ⟨v7, rfl, hr7, hb7⟩
  clear hx7
  replace Hl := Lib.hid (Hl.out.step hb7 (Nat.le_refl _))
  replace H6 := Lib.hid (H6.out.step hb7 (Nat.le_refl _))
  have Bw7 := Bw6.trans (hb7.mono Zw6)
  have Zw7 := Bw7.size
  have H7 := Lib.hid hr7
  clear hr7
  clear hb7
  go_wp2_with fail
  have hx8 := sameI_any v6 v7 _ _ _ _ _ H6.out H7.out
  rw [decide_eq_true rfl] at hx8
  refine hx8.mono ?_
  rintro e w8 ⟨rfl, hb8⟩
  clear hx8
  replace Hl := Lib.hid (Hl.out.step hb8 (Nat.le_refl _))
  replace H6 := Lib.hid (H6.out.step hb8 (Nat.le_refl _))
  replace H7 := Lib.hid (H7.out.step hb8 (Nat.le_refl _))
  have Bw8 := Bw7.trans (hb8.mono Zw7)
  have Zw8 := Bw8.size
  clear hb8
  clear H6
  clear H7
  go_wp2_with fail
  have hx9 := sSlices_any _ l _ _ Hl.out (by omega)
  refine hx9.mono ?_
  rintro e w9 ⟨v9, rfl, hr9, hb9⟩
  clear hx9
  replace Hl := Lib.hid (Hl.out.step hb9 (Nat.le_refl _))
  have Bw9 := Bw8.trans (hb9.mono Zw8)
  have Zw9 := Bw9.size
  have H9 := Lib.hid hr9
  clear hr9
  clear hb9
  go_wp2_with fail
  have hx10 := rSlices_any _ l _ _ Hl.out (by omega)
  refine hx10.mono ?_
  rintro e w10 ⟨v10, rfl, hr10, hb10⟩
  clear hx10
  replace Hl := Lib.hid (Hl.out.step hb10 (Nat.le_refl _))
  replace H9 := Lib.hid (H9.out.step hb10 (Nat.le_refl _))
  have Bw10 := Bw9.trans (hb10.mono Zw9)
  have Zw10 := Bw10.size
  have H10 := Lib.hid hr10
  clear hr10
  clear hb10
  go_wp2_with fail
  have hx11 := sameP_any v9 v10 _ _ _ _ _ H9.out H10.out
  rw [decide_eq_true rfl] at hx11
  refine hx11.mono ?_
  rintro e w11 ⟨rfl, hb11⟩
  clear hx11
  replace Hl := Lib.hid (Hl.out.step hb11 (Nat.le_refl _))
  replace H9 := Lib.hid (H9.out.step hb11 (Nat.le_refl _))
  replace H10 := Lib.hid (H10.out.step hb11 (Nat.le_refl _))
  have Bw11 := Bw10.trans (hb11.mono Zw10)
  have Zw11 := Bw11.size
  clear hb11
  clear H9
  clear H10
  go_wp2_with fail
  have hx12 := awake_any w11
  refine hx12.mono ?_
  rintro e w12 ⟨rfl, hb12⟩
  clear hx12
  replace Hl := Lib.hid (Hl.out.step hb12 (Nat.le_refl _))
  have Bw12 := Bw11.trans (hb12.mono Zw11)
  have Zw12 := Bw12.size
  clear hb12
  go_wp2
  go_ret
  exact ⟨rfl, Bw12⟩
end Go.Proofs.Ytpbccbhhjnlcpaa
