/-
  The walk of the statement SpanCombines. Conditions: the lists are read anywhere below the heap's end.
-/
import Derived.Test.YtpbccbhhjnlcpaaAwkS
import Derived.Test.YtpbccbhhjnlcpaaValS
import Derived.WalkKit
import Derived.WalkSpells
import Derived.WalkLawsBesides
import Derived.Deep.QuietTactic
import Derived.BigQuiet
import Derived.Handy
import Derived.Lib.Hide
namespace Go.Proofs.Ytpbccbhhjnlcpaa
open Go.RowKit

set_option maxRecDepth 100000 in
set_option maxHeartbeats 6400000 in
theorem law_combines (va vb : Value) (a b : List (Int × Int)) (w : World) (La Lb : Nat) (hva : RdP w La w.heap.size va a) (hvb : RdP w Lb w.heap.size vb b) :
    Calls Try.prog 5 #[va, vb] w fun e w' => e = .returned (.bool true) ∧ Below w.heap.size w w' := by
  have Ha := Lib.hid hva
  obtain ⟨Aa, ca, rfl, _, _⟩ := hva
  have Hb := Lib.hid hvb
  obtain ⟨Ab, cb, rfl, _, _⟩ := hvb
  by_cases hbiga : (a.length : Int) > 30
  · have hbda : decide ((a.length : Int) > 30) = true := by simp; omega
    go_enter Try.func5, Try.ntmps5
    go_wp2_with fail
    refine (awake_any _).mono ?_
    rintro e w1 ⟨rfl, hb1⟩
    go_wp2
    go_ret
    exact ⟨rfl, hb1⟩
  have hla : a.length ≤ 30 := by omega
  have hbda : decide ((a.length : Int) > 30) = false := by simp; omega
  by_cases hbigb : (b.length : Int) > 30
  · have hbdb : decide ((b.length : Int) > 30) = true := by simp; omega
    go_enter Try.func5, Try.ntmps5
    go_wp2_with fail
    refine (awake_any _).mono ?_
    rintro e w1 ⟨rfl, hb1⟩
    go_wp2
    go_ret
    exact ⟨rfl, hb1⟩
  have hlb : b.length ≤ 30 := by omega
  have hbdb : decide ((b.length : Int) > 30) = false := by simp; omega
  go_enter Try.func5, Try.ntmps5
  go_wp2_with fail
  have hx1 := sUnion_any _ _ a b _ _ _ Ha.out Hb.out (by omega) (by omega)
  refine hx1.mono ?_
  rintro e w1 ⟨v1, rfl, hr1, hb1⟩
  clear hx1
  replace Ha := Lib.hid (Ha.out.step hb1 (Nat.le_refl _))
  replace Hb := Lib.hid (Hb.out.step hb1 (Nat.le_refl _))
  have Bw1 := hb1
  have Zw1 := Bw1.size
  have H1 := Lib.hid hr1
  clear hr1
  clear hb1
  go_wp2_with fail
  have hx2 := rUnion_any _ _ a b _ _ _ Ha.out Hb.out (by omega) (by omega)
  refine hx2.mono ?_
  rintro e w2 ⟨v2, rfl, hr2, hb2⟩
  clear hx2
  replace Ha := Lib.hid (Ha.out.step hb2 (Nat.le_refl _))
  replace Hb := Lib.hid (Hb.out.step hb2 (Nat.le_refl _))
  replace H1 := Lib.hid (H1.out.step hb2 (Nat.le_refl _))
  have Bw2 := Bw1.trans (hb2.mono Zw1)
  have Zw2 := Bw2.size
  have H2 := Lib.hid hr2
  clear hr2
  clear hb2
  go_wp2_with fail
  have hx3 := sameP_any v1 v2 _ _ _ _ _ H1.out H2.out
  rw [decide_eq_true rfl] at hx3
  refine hx3.mono ?_
  rintro e w3 ⟨rfl, hb3⟩
  clear hx3
  replace Ha := Lib.hid (Ha.out.step hb3 (Nat.le_refl _))
  replace Hb := Lib.hid (Hb.out.step hb3 (Nat.le_refl _))
  replace H1 := Lib.hid (H1.out.step hb3 (Nat.le_refl _))
  replace H2 := Lib.hid (H2.out.step hb3 (Nat.le_refl _))
  have Bw3 := Bw2.trans (hb3.mono Zw2)
  have Zw3 := Bw3.size
  clear hb3
  clear H1
  clear H2
  go_wp2_with fail
  have hx4 := sIntersect_any _ _ a b _ _ _ Ha.out Hb.out (by omega) (by omega)
  refine hx4.mono ?_
  rintro e w4 ⟨v4, rfl, hr4, hb4⟩
  clear hx4
  replace Ha := Lib.hid (Ha.out.step hb4 (Nat.le_refl _))
  replace Hb := Lib.hid (Hb.out.step hb4 (Nat.le_refl _))
  have Bw4 := Bw3.trans (hb4.mono Zw3)
  have Zw4 := Bw4.size
  have H4 := Lib.hid hr4
  clear hr4
  clear hb4
  go_wp2_with fail
  have hx5 := rInter_any _ _ a b _ _ _ Ha.out Hb.out (by omega) (by omega)
  refine hx5.mono ?_
  rintro e w5 ⟨v5, rfl, hr5, hb5⟩
  clear hx5
  replace Ha := Lib.hid (Ha.out.step hb5 (Nat.le_refl _))
  replace Hb := Lib.hid (Hb.out.step hb5 (Nat.le_refl _))
  replace H4 := Lib.hid (H4.out.step hb5 (Nat.le_refl _))
  have Bw5 := Bw4.trans (hb5.mono Zw4)
  have Zw5 := Bw5.size
  have H5 := Lib.hid hr5
  clear hr5
  clear hb5
  go_wp2_with fail
  have hx6 := sameP_any v4 v5 _ _ _ _ _ H4.out H5.out
  rw [decide_eq_true rfl] at hx6
  refine hx6.mono ?_
  rintro e w6 ⟨rfl, hb6⟩
  clear hx6
  replace Ha := Lib.hid (Ha.out.step hb6 (Nat.le_refl _))
  replace Hb := Lib.hid (Hb.out.step hb6 (Nat.le_refl _))
  replace H4 := Lib.hid (H4.out.step hb6 (Nat.le_refl _))
  replace H5 := Lib.hid (H5.out.step hb6 (Nat.le_refl _))
  have Bw6 := Bw5.trans (hb6.mono Zw5)
  have Zw6 := Bw6.size
  clear hb6
  clear H4
  clear H5
  go_wp2_with fail
  have hx7 := sSubtract_any _ _ a b _ _ _ Ha.out Hb.out (by omega) (by omega)
  refine hx7.mono ?_
  rintro e w7 ⟨v7, rfl, hr7, hb7⟩
  clear hx7
  replace Ha := Lib.hid (Ha.out.step hb7 (Nat.le_refl _))
  replace Hb := Lib.hid (Hb.out.step hb7 (Nat.le_refl _))
  have Bw7 := Bw6.trans (hb7.mono Zw6)
  have Zw7 := Bw7.size
  have H7 := Lib.hid hr7
  clear hr7
  clear hb7
  go_wp2_with fail
  have hx8 := rSub_any _ _ a b _ _ _ Ha.out Hb.out (by omega) (by omega)
  refine hx8.mono ?_
  rintro e w8 ⟨v8, rfl, hr8, hb8⟩
  clear hx8
  replace Ha := Lib.hid (Ha.out.step hb8 (Nat.le_refl _))
  replace Hb := Lib.hid (Hb.out.step hb8 (Nat.le_refl _))
  replace H7 := Lib.hid (H7.out.step hb8 (Nat.le_refl _))
  have Bw8 := Bw7.trans (hb8.mono Zw7)
  have Zw8 := Bw8.size
  have H8 := Lib.hid hr8
  clear hr8
  clear hb8
  go_wp2_with fail
  have hx9 := sameP_any v7 v8 _ _ _ _ _ H7.out H8.out
  rw [decide_eq_true rfl] at hx9
  refine hx9.mono ?_
  rintro e w9 ⟨rfl, hb9⟩
  clear hx9
  replace Ha := Lib.hid (Ha.out.step hb9 (Nat.le_refl _))
  replace Hb := Lib.hid (Hb.out.step hb9 (Nat.le_refl _))
  replace H7 := Lib.hid (H7.out.step hb9 (Nat.le_refl _))
  replace H8 := Lib.hid (H8.out.step hb9 (Nat.le_refl _))
  have Bw9 := Bw8.trans (hb9.mono Zw8)
  have Zw9 := Bw9.size
  clear hb9
  clear H7
  clear H8
  go_wp2_with fail
  have hx10 := sComplement_any _ a _ _ Ha.out (by omega)
  refine hx10.mono ?_
  rintro e w10 ⟨v10, rfl, hr10, hb10⟩
  clear hx10
  replace Ha := Lib.hid (Ha.out.step hb10 (Nat.le_refl _))
  replace Hb := Lib.hid (Hb.out.step hb10 (Nat.le_refl _))
  have Bw10 := Bw9.trans (hb10.mono Zw9)
  have Zw10 := Bw10.size
  have H10 := Lib.hid hr10
  clear hr10
  clear hb10
  go_wp2_with fail
  have hx11 := rCompl_any _ a _ _ Ha.out (by omega)
  refine hx11.mono ?_
  rintro e w11 ⟨v11, rfl, hr11, hb11⟩
  clear hx11
  replace Ha := Lib.hid (Ha.out.step hb11 (Nat.le_refl _))
  replace Hb := Lib.hid (Hb.out.step hb11 (Nat.le_refl _))
  replace H10 := Lib.hid (H10.out.step hb11 (Nat.le_refl _))
  have Bw11 := Bw10.trans (hb11.mono Zw10)
  have Zw11 := Bw11.size
  have H11 := Lib.hid hr11
  clear hr11
  clear hb11
  go_wp2_with fail
  have hx12 := sameP_any v10 v11 _ _ _ _ _ H10.out H11.out
  rw [decide_eq_true rfl] at hx12
  refine hx12.mono ?_
  rintro e w12 ⟨rfl, hb12⟩
  clear hx12
  replace Ha := Lib.hid (Ha.out.step hb12 (Nat.le_refl _))
  replace Hb := Lib.hid (Hb.out.step hb12 (Nat.le_refl _))
  replace H10 := Lib.hid (H10.out.step hb12 (Nat.le_refl _))
  replace H11 := Lib.hid (H11.out.step hb12 (Nat.le_refl _))
  have Bw12 := Bw11.trans (hb12.mono Zw11)
  have Zw12 := Bw12.size
  clear hb12
  clear H10
  clear H11
  go_wp2_with fail
  have hx13 := sCovers_any _ _ a b _ _ _ Ha.out Hb.out (by omega) (by omega)
  refine hx13.mono ?_
  rintro e w13 ⟨rfl, hb13⟩
  clear hx13
  replace Ha := Lib.hid (Ha.out.step hb13 (Nat.le_refl _))
  replace Hb := Lib.hid (Hb.out.step hb13 (Nat.le_refl _))
  have Bw13 := Bw12.trans (hb13.mono Zw12)
  have Zw13 := Bw13.size
  clear hb13
  go_wp2_with fail
  have hx14 := rCov_any _ _ a b _ _ _ Ha.out Hb.out (by omega) (by omega)
  refine hx14.mono ?_
  rintro e w14 ⟨rfl, hb14⟩
  clear hx14
  replace Ha := Lib.hid (Ha.out.step hb14 (Nat.le_refl _))
  replace Hb := Lib.hid (Hb.out.step hb14 (Nat.le_refl _))
  have Bw14 := Bw13.trans (hb14.mono Zw13)
  have Zw14 := Bw14.size
  clear hb14
  have e1 : (covB a b == covB a b) = true := by simp
  go_wp2_with fail
  have hx15 := awake_any w14
  refine hx15.mono ?_
  rintro e w15 ⟨rfl, hb15⟩
  clear hx15
  replace Ha := Lib.hid (Ha.out.step hb15 (Nat.le_refl _))
  replace Hb := Lib.hid (Hb.out.step hb15 (Nat.le_refl _))
  have Bw15 := Bw14.trans (hb15.mono Zw14)
  have Zw15 := Bw15.size
  clear hb15
  go_wp2
  go_ret
  exact ⟨rfl, Bw15⟩
end Go.Proofs.Ytpbccbhhjnlcpaa
