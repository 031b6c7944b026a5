import Derived.Test.YtnbeopkpkagjmaaRAw
import Derived.Test.YtnbeopkpkagjmaaRLe
import Derived.Test.YtnbeopkpkagjmaaRTw
import Derived.Test.YtnbeopkpkagjmaaSA
import Derived.WalkKit
import Derived.WalkSpells
import Derived.WalkLawsBesides
import Derived.Deep.QuietTactic
import Derived.BigQuiet
import Derived.Handy
import Derived.Lib.Hide
/-
  The walk of the statement RegionAlgebra. Conditions: none. (Written by mkRgW.py.)
-/
namespace Go.Proofs.Ytnbeopkpkagjmaa
set_option maxRecDepth 100000
set_option linter.unusedVariables false
set_option linter.unusedSimpArgs false
open Go.RowKit

set_option maxRecDepth 100000 in
set_option maxHeartbeats 6400000 in
theorem law_algebra (va vb vc : Value) (a b c : List Rc) (w : World) (La Lb Lc : Nat) (hva : RdR w La w.heap.size va a) (hvb : RdR w Lb w.heap.size vb b) (hvc : RdR w Lc w.heap.size vc c) :
    Calls Try.prog 4 #[va, vb, vc] w fun e w' => e = .returned (.bool true) ∧ Below w.heap.size w w' := by
  have Ha := Lib.hid hva
  obtain ⟨Aa, ca, rfl, _, _⟩ := hva
  have Hb := Lib.hid hvb
  obtain ⟨Ab, cb, rfl, _, _⟩ := hvb
  have Hc := Lib.hid hvc
  obtain ⟨Ac, cc, rfl, _, _⟩ := hvc
  by_cases hbiga : (a.length : Int) > 12
  · have hbda : decide ((a.length : Int) > 12) = true := by simp; omega
    go_enter Try.func4, Try.ntmps4
    go_wp2_with fail
    refine (awake_any _).mono ?_
    rintro e w1 ⟨rfl, hb1⟩
    go_wp2
    go_ret
    exact ⟨rfl, hb1⟩
  have hla : a.length ≤ 12 := by omega
  have hbda : decide ((a.length : Int) > 12) = false := by simp; omega
  by_cases hbigb : (b.length : Int) > 12
  · have hbdb : decide ((b.length : Int) > 12) = true := by simp; omega
    go_enter Try.func4, Try.ntmps4
    go_wp2_with fail
    refine (awake_any _).mono ?_
    rintro e w1 ⟨rfl, hb1⟩
    go_wp2
    go_ret
    exact ⟨rfl, hb1⟩
  have hlb : b.length ≤ 12 := by omega
  have hbdb : decide ((b.length : Int) > 12) = false := by simp; omega
  by_cases hbigc : (c.length : Int) > 12
  · have hbdc : decide ((c.length : Int) > 12) = true := by simp; omega
    go_enter Try.func4, Try.ntmps4
    go_wp2_with fail
    refine (awake_any _).mono ?_
    rintro e w1 ⟨rfl, hb1⟩
    go_wp2
    go_ret
    exact ⟨rfl, hb1⟩
  have hlc : c.length ≤ 12 := by omega
  have hbdc : decide ((c.length : Int) > 12) = false := by simp; omega
  go_enter Try.func4, Try.ntmps4
  have m1 := cmb12 fOr hla hlb
  have m2 := cmb12 fAnd hla hlb
  have m3 := cmb12 fSub hla hlb
  have m4 := cmb12 fOr hlb hlc
  have m5 := cmb12 fAnd hla hlc
  have m6 := cmb12 fAnd hlb hlc
  go_wp2_with fail
  have hx1 := qUnion_any _ _ a b _ _ _ Ha.out Hb.out (by omega)
  with_reducible refine hx1.mono ?_
  rintro e w1 ⟨v1, rfl, hr1, hb1⟩
  clear hx1
  replace Ha := Lib.hid (Ha.out.step hb1 (Nat.le_refl _))
  replace Hb := Lib.hid (Hb.out.step hb1 (Nat.le_refl _))
  replace Hc := Lib.hid (Hc.out.step hb1 (Nat.le_refl _))
  have Bw1 := hb1
  have Zw1 := Bw1.size
  have H1 := Lib.hid hr1
  obtain ⟨A1, c1, rfl, _, _⟩ := hr1
  clear hb1
  go_wp2_with fail
  have hx2 := qInter_any _ _ a b _ _ _ Ha.out Hb.out (by omega)
  with_reducible refine hx2.mono ?_
  rintro e w2 ⟨v2, rfl, hr2, hb2⟩
  clear hx2
  replace Ha := Lib.hid (Ha.out.step hb2 (Nat.le_refl _))
  replace Hb := Lib.hid (Hb.out.step hb2 (Nat.le_refl _))
  replace Hc := Lib.hid (Hc.out.step hb2 (Nat.le_refl _))
  replace H1 := Lib.hid (H1.out.step hb2 (Nat.le_refl _))
  have Bw2 := Bw1.trans (hb2.mono Zw1)
  have Zw2 := Bw2.size
  have H2 := Lib.hid hr2
  obtain ⟨A2, c2, rfl, _, _⟩ := hr2
  clear hb2
  go_wp2_with fail
  have hx3 := qUnion_any _ _ b a _ _ _ Hb.out Ha.out (by omega)
  rw [or_comm_R] at hx3
  with_reducible refine hx3.mono ?_
  rintro e w3 ⟨v3, rfl, hr3, hb3⟩
  clear hx3
  replace Ha := Lib.hid (Ha.out.step hb3 (Nat.le_refl _))
  replace Hb := Lib.hid (Hb.out.step hb3 (Nat.le_refl _))
  replace Hc := Lib.hid (Hc.out.step hb3 (Nat.le_refl _))
  replace H1 := Lib.hid (H1.out.step hb3 (Nat.le_refl _))
  replace H2 := Lib.hid (H2.out.step hb3 (Nat.le_refl _))
  have Bw3 := Bw2.trans (hb3.mono Zw2)
  have Zw3 := Bw3.size
  have H3 := Lib.hid hr3
  obtain ⟨A3, c3, rfl, _, _⟩ := hr3
  clear hb3
  go_wp2_with fail
  have hx4 := sameR_any _ _ _ _ _ _ _ H1.out H3.out
  rw [decide_eq_true rfl] at hx4
  with_reducible refine hx4.mono ?_
  rintro e w4 ⟨rfl, hb4⟩
  clear hx4
  replace Ha := Lib.hid (Ha.out.step hb4 (Nat.le_refl _))
  replace Hb := Lib.hid (Hb.out.step hb4 (Nat.le_refl _))
  replace Hc := Lib.hid (Hc.out.step hb4 (Nat.le_refl _))
  replace H1 := Lib.hid (H1.out.step hb4 (Nat.le_refl _))
  replace H2 := Lib.hid (H2.out.step hb4 (Nat.le_refl _))
  replace H3 := Lib.hid (H3.out.step hb4 (Nat.le_refl _))
  have Bw4 := Bw3.trans (hb4.mono Zw3)
  have Zw4 := Bw4.size
  clear hb4
  clear H3
  go_wp2_with fail
  have hx5 := qInter_any _ _ b a _ _ _ Hb.out Ha.out (by omega)
  rw [and_comm_R] at hx5
  with_reducible refine hx5.mono ?_
  rintro e w5 ⟨v5, rfl, hr5, hb5⟩
  clear hx5
  replace Ha := Lib.hid (Ha.out.step hb5 (Nat.le_refl _))
  replace Hb := Lib.hid (Hb.out.step hb5 (Nat.le_refl _))
  replace Hc := Lib.hid (Hc.out.step hb5 (Nat.le_refl _))
  replace H1 := Lib.hid (H1.out.step hb5 (Nat.le_refl _))
  replace H2 := Lib.hid (H2.out.step hb5 (Nat.le_refl _))
  have Bw5 := Bw4.trans (hb5.mono Zw4)
  have Zw5 := Bw5.size
  have H5 := Lib.hid hr5
  obtain ⟨A5, c5, rfl, _, _⟩ := hr5
  clear hb5
  go_wp2_with fail
  have hx6 := sameR_any _ _ _ _ _ _ _ H2.out H5.out
  rw [decide_eq_true rfl] at hx6
  with_reducible refine hx6.mono ?_
  rintro e w6 ⟨rfl, hb6⟩
  clear hx6
  replace Ha := Lib.hid (Ha.out.step hb6 (Nat.le_refl _))
  replace Hb := Lib.hid (Hb.out.step hb6 (Nat.le_refl _))
  replace Hc := Lib.hid (Hc.out.step hb6 (Nat.le_refl _))
  replace H1 := Lib.hid (H1.out.step hb6 (Nat.le_refl _))
  replace H2 := Lib.hid (H2.out.step hb6 (Nat.le_refl _))
  replace H5 := Lib.hid (H5.out.step hb6 (Nat.le_refl _))
  have Bw6 := Bw5.trans (hb6.mono Zw5)
  have Zw6 := Bw6.size
  clear hb6
  clear H5
  go_wp2_with fail
  have hx7 := qSub_any _ _ a b _ _ _ Ha.out Hb.out (by omega)
  with_reducible refine hx7.mono ?_
  rintro e w7 ⟨v7, rfl, hr7, hb7⟩
  clear hx7
  replace Ha := Lib.hid (Ha.out.step hb7 (Nat.le_refl _))
  replace Hb := Lib.hid (Hb.out.step hb7 (Nat.le_refl _))
  replace Hc := Lib.hid (Hc.out.step hb7 (Nat.le_refl _))
  replace H1 := Lib.hid (H1.out.step hb7 (Nat.le_refl _))
  replace H2 := Lib.hid (H2.out.step hb7 (Nat.le_refl _))
  have Bw7 := Bw6.trans (hb7.mono Zw6)
  have Zw7 := Bw7.size
  have H7 := Lib.hid hr7
  obtain ⟨A7, c7, rfl, _, _⟩ := hr7
  clear hb7
  go_wp2_with fail
  have hx8 := qUnion_any _ _ _ _ _ _ _ H7.out H2.out (by omega)
  rw [parts_R] at hx8
  with_reducible refine hx8.mono ?_
  rintro e w8 ⟨v8, rfl, hr8, hb8⟩
  clear hx8
  replace Ha := Lib.hid (Ha.out.step hb8 (Nat.le_refl _))
  replace Hb := Lib.hid (Hb.out.step hb8 (Nat.le_refl _))
  replace Hc := Lib.hid (Hc.out.step hb8 (Nat.le_refl _))
  replace H1 := Lib.hid (H1.out.step hb8 (Nat.le_refl _))
  replace H2 := Lib.hid (H2.out.step hb8 (Nat.le_refl _))
  replace H7 := Lib.hid (H7.out.step hb8 (Nat.le_refl _))
  have Bw8 := Bw7.trans (hb8.mono Zw7)
  have Zw8 := Bw8.size
  have H8 := Lib.hid hr8
  obtain ⟨A8, c8, rfl, _, _⟩ := hr8
  clear hb8
  clear H7
  go_wp2_with fail
  have hx9 := qOf_any _ a _ _ Ha.out (by omega)
  with_reducible refine hx9.mono ?_
  rintro e w9 ⟨v9, rfl, hr9, hb9⟩
  clear hx9
  replace Ha := Lib.hid (Ha.out.step hb9 (Nat.le_refl _))
  replace Hb := Lib.hid (Hb.out.step hb9 (Nat.le_refl _))
  replace Hc := Lib.hid (Hc.out.step hb9 (Nat.le_refl _))
  replace H1 := Lib.hid (H1.out.step hb9 (Nat.le_refl _))
  replace H2 := Lib.hid (H2.out.step hb9 (Nat.le_refl _))
  replace H8 := Lib.hid (H8.out.step hb9 (Nat.le_refl _))
  have Bw9 := Bw8.trans (hb9.mono Zw8)
  have Zw9 := Bw9.size
  have H9 := Lib.hid hr9
  obtain ⟨A9, c9, rfl, _, _⟩ := hr9
  clear hb9
  go_wp2_with fail
  have hx10 := sameR_any _ _ _ _ _ _ _ H8.out H9.out
  rw [decide_eq_true rfl] at hx10
  with_reducible refine hx10.mono ?_
  rintro e w10 ⟨rfl, hb10⟩
  clear hx10
  replace Ha := Lib.hid (Ha.out.step hb10 (Nat.le_refl _))
  replace Hb := Lib.hid (Hb.out.step hb10 (Nat.le_refl _))
  replace Hc := Lib.hid (Hc.out.step hb10 (Nat.le_refl _))
  replace H1 := Lib.hid (H1.out.step hb10 (Nat.le_refl _))
  replace H2 := Lib.hid (H2.out.step hb10 (Nat.le_refl _))
  replace H8 := Lib.hid (H8.out.step hb10 (Nat.le_refl _))
  replace H9 := Lib.hid (H9.out.step hb10 (Nat.le_refl _))
  have Bw10 := Bw9.trans (hb10.mono Zw9)
  have Zw10 := Bw10.size
  clear hb10
  clear H8
  clear H9
  clear H2
  go_wp2_with fail
  have hx11 := qUnion_any _ _ _ c _ _ _ H1.out Hc.out (by omega)
  with_reducible refine hx11.mono ?_
  rintro e w11 ⟨v11, rfl, hr11, hb11⟩
  clear hx11
  replace Ha := Lib.hid (Ha.out.step hb11 (Nat.le_refl _))
  replace Hb := Lib.hid (Hb.out.step hb11 (Nat.le_refl _))
  replace Hc := Lib.hid (Hc.out.step hb11 (Nat.le_refl _))
  replace H1 := Lib.hid (H1.out.step hb11 (Nat.le_refl _))
  have Bw11 := Bw10.trans (hb11.mono Zw10)
  have Zw11 := Bw11.size
  have H11 := Lib.hid hr11
  obtain ⟨A11, c11, rfl, _, _⟩ := hr11
  clear hb11
  go_wp2_with fail
  have hx12 := qUnion_any _ _ b c _ _ _ Hb.out Hc.out (by omega)
  with_reducible refine hx12.mono ?_
  rintro e w12 ⟨v12, rfl, hr12, hb12⟩
  clear hx12
  replace Ha := Lib.hid (Ha.out.step hb12 (Nat.le_refl _))
  replace Hb := Lib.hid (Hb.out.step hb12 (Nat.le_refl _))
  replace Hc := Lib.hid (Hc.out.step hb12 (Nat.le_refl _))
  replace H1 := Lib.hid (H1.out.step hb12 (Nat.le_refl _))
  replace H11 := Lib.hid (H11.out.step hb12 (Nat.le_refl _))
  have Bw12 := Bw11.trans (hb12.mono Zw11)
  have Zw12 := Bw12.size
  have H12 := Lib.hid hr12
  obtain ⟨A12, c12, rfl, _, _⟩ := hr12
  clear hb12
  go_wp2_with fail
  have hx13 := qUnion_any _ _ a _ _ _ _ Ha.out H12.out (by omega)
  rw [or_assoc_R] at hx13
  with_reducible refine hx13.mono ?_
  rintro e w13 ⟨v13, rfl, hr13, hb13⟩
  clear hx13
  replace Ha := Lib.hid (Ha.out.step hb13 (Nat.le_refl _))
  replace Hb := Lib.hid (Hb.out.step hb13 (Nat.le_refl _))
  replace Hc := Lib.hid (Hc.out.step hb13 (Nat.le_refl _))
  replace H1 := Lib.hid (H1.out.step hb13 (Nat.le_refl _))
  replace H11 := Lib.hid (H11.out.step hb13 (Nat.le_refl _))
  replace H12 := Lib.hid (H12.out.step hb13 (Nat.le_refl _))
  have Bw13 := Bw12.trans (hb13.mono Zw12)
  have Zw13 := Bw13.size
  have H13 := Lib.hid hr13
  obtain ⟨A13, c13, rfl, _, _⟩ := hr13
  clear hb13
  go_wp2_with fail
  have hx14 := sameR_any _ _ _ _ _ _ _ H11.out H13.out
  rw [decide_eq_true rfl] at hx14
  with_reducible refine hx14.mono ?_
  rintro e w14 ⟨rfl, hb14⟩
  clear hx14
  replace Ha := Lib.hid (Ha.out.step hb14 (Nat.le_refl _))
  replace Hb := Lib.hid (Hb.out.step hb14 (Nat.le_refl _))
  replace Hc := Lib.hid (Hc.out.step hb14 (Nat.le_refl _))
  replace H1 := Lib.hid (H1.out.step hb14 (Nat.le_refl _))
  replace H11 := Lib.hid (H11.out.step hb14 (Nat.le_refl _))
  replace H12 := Lib.hid (H12.out.step hb14 (Nat.le_refl _))
  replace H13 := Lib.hid (H13.out.step hb14 (Nat.le_refl _))
  have Bw14 := Bw13.trans (hb14.mono Zw13)
  have Zw14 := Bw14.size
  clear hb14
  clear H11
  clear H12
  clear H13
  go_wp2_with fail
  have hx15 := qInter_any _ _ _ c _ _ _ H1.out Hc.out (by omega)
  with_reducible refine hx15.mono ?_
  rintro e w15 ⟨v15, rfl, hr15, hb15⟩
  clear hx15
  replace Ha := Lib.hid (Ha.out.step hb15 (Nat.le_refl _))
  replace Hb := Lib.hid (Hb.out.step hb15 (Nat.le_refl _))
  replace Hc := Lib.hid (Hc.out.step hb15 (Nat.le_refl _))
  replace H1 := Lib.hid (H1.out.step hb15 (Nat.le_refl _))
  have Bw15 := Bw14.trans (hb15.mono Zw14)
  have Zw15 := Bw15.size
  have H15 := Lib.hid hr15
  obtain ⟨A15, c15, rfl, _, _⟩ := hr15
  clear hb15
  go_wp2_with fail
  have hx16 := qInter_any _ _ a c _ _ _ Ha.out Hc.out (by omega)
  with_reducible refine hx16.mono ?_
  rintro e w16 ⟨v16, rfl, hr16, hb16⟩
  clear hx16
  replace Ha := Lib.hid (Ha.out.step hb16 (Nat.le_refl _))
  replace Hb := Lib.hid (Hb.out.step hb16 (Nat.le_refl _))
  replace Hc := Lib.hid (Hc.out.step hb16 (Nat.le_refl _))
  replace H1 := Lib.hid (H1.out.step hb16 (Nat.le_refl _))
  replace H15 := Lib.hid (H15.out.step hb16 (Nat.le_refl _))
  have Bw16 := Bw15.trans (hb16.mono Zw15)
  have Zw16 := Bw16.size
  have H16 := Lib.hid hr16
  obtain ⟨A16, c16, rfl, _, _⟩ := hr16
  clear hb16
  go_wp2_with fail
  have hx17 := qInter_any _ _ b c _ _ _ Hb.out Hc.out (by omega)
  with_reducible refine hx17.mono ?_
  rintro e w17 ⟨v17, rfl, hr17, hb17⟩
  clear hx17
  replace Ha := Lib.hid (Ha.out.step hb17 (Nat.le_refl _))
  replace Hb := Lib.hid (Hb.out.step hb17 (Nat.le_refl _))
  replace Hc := Lib.hid (Hc.out.step hb17 (Nat.le_refl _))
  replace H1 := Lib.hid (H1.out.step hb17 (Nat.le_refl _))
  replace H15 := Lib.hid (H15.out.step hb17 (Nat.le_refl _))
  replace H16 := Lib.hid (H16.out.step hb17 (Nat.le_refl _))
  have Bw17 := Bw16.trans (hb17.mono Zw16)
  have Zw17 := Bw17.size
  have H17 := Lib.hid hr17
  obtain ⟨A17, c17, rfl, _, _⟩ := hr17
  clear hb17
  go_wp2_with fail
  have hx18 := qUnion_any _ _ _ _ _ _ _ H16.out H17.out (by omega)
  rw [and_or_R] at hx18
  with_reducible refine hx18.mono ?_
  rintro e w18 ⟨v18, rfl, hr18, hb18⟩
  clear hx18
  replace Ha := Lib.hid (Ha.out.step hb18 (Nat.le_refl _))
  replace Hb := Lib.hid (Hb.out.step hb18 (Nat.le_refl _))
  replace Hc := Lib.hid (Hc.out.step hb18 (Nat.le_refl _))
  replace H1 := Lib.hid (H1.out.step hb18 (Nat.le_refl _))
  replace H15 := Lib.hid (H15.out.step hb18 (Nat.le_refl _))
  replace H16 := Lib.hid (H16.out.step hb18 (Nat.le_refl _))
  replace H17 := Lib.hid (H17.out.step hb18 (Nat.le_refl _))
  have Bw18 := Bw17.trans (hb18.mono Zw17)
  have Zw18 := Bw18.size
  have H18 := Lib.hid hr18
  obtain ⟨A18, c18, rfl, _, _⟩ := hr18
  clear hb18
  clear H16
  clear H17
  go_wp2_with fail
  have hx19 := sameR_any _ _ _ _ _ _ _ H15.out H18.out
  rw [decide_eq_true rfl] at hx19
  with_reducible refine hx19.mono ?_
  rintro e w19 ⟨rfl, hb19⟩
  clear hx19
  replace Ha := Lib.hid (Ha.out.step hb19 (Nat.le_refl _))
  replace Hb := Lib.hid (Hb.out.step hb19 (Nat.le_refl _))
  replace Hc := Lib.hid (Hc.out.step hb19 (Nat.le_refl _))
  replace H1 := Lib.hid (H1.out.step hb19 (Nat.le_refl _))
  replace H15 := Lib.hid (H15.out.step hb19 (Nat.le_refl _))
  replace H18 := Lib.hid (H18.out.step hb19 (Nat.le_refl _))
  have Bw19 := Bw18.trans (hb19.mono Zw18)
  have Zw19 := Bw19.size
  clear hb19
  clear H15
  clear H18
  clear H1
  go_wp2_with fail
  have hx20 := awake_any w19
  with_reducible refine hx20.mono ?_
  rintro e w20 ⟨rfl, hb20⟩
  clear hx20
  replace Ha := Lib.hid (Ha.out.step hb20 (Nat.le_refl _))
  replace Hb := Lib.hid (Hb.out.step hb20 (Nat.le_refl _))
  replace Hc := Lib.hid (Hc.out.step hb20 (Nat.le_refl _))
  have Bw20 := Bw19.trans (hb20.mono Zw19)
  have Zw20 := Bw20.size
  clear hb20
  go_wp2
  go_ret
  exact ⟨rfl, Bw20⟩
end Go.Proofs.Ytnbeopkpkagjmaa
