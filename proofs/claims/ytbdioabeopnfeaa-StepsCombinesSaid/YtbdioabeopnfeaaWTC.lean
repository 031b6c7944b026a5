/-
  The walk of the statement StepsCombines. Conditions: the lists are read anywhere below the heap's end.
-/
import Derived.Test.YtbdioabeopnfeaaStMa
import Derived.WalkKit
import Derived.WalkSpells
import Derived.WalkLawsBesides
import Derived.Deep.QuietTactic
import Derived.BigQuiet
import Derived.Handy
import Derived.Lib.Hide
namespace Go.Proofs.Ytbdioabeopnfeaa
open Go.RowKit

set_option maxRecDepth 100000 in
set_option maxHeartbeats 12800000 in
theorem law_combines (va vb : Value) (a : List (Int × Int)) (b : List (Int × Int))  (w : World) (La Lb : Nat) (hva : RdP w La w.heap.size va a) (hvb : RdP w Lb w.heap.size vb b) :
    Calls Try.prog 5 #[va, vb] w fun e w' => e = .returned (.bool true) ∧ Below w.heap.size w w' := by
  have Ha := Lib.hid hva
  obtain ⟨Aa, ca, rfl, _, _⟩ := hva
  have Hb := Lib.hid hvb
  obtain ⟨Ab, cb, rfl, _, _⟩ := hvb
  cases hfa : fineL a
  · skip
    go_enter Try.func5, Try.ntmps5
    have hx1 := fine_any _ a _ _ Ha.out
    rw [hfa] at hx1
    go_wp2_with fail
    refine hx1.mono ?_
    rintro e w1 ⟨rfl, hb1⟩
    clear hx1
    replace Ha := Lib.hid (Ha.out.step hb1 (Nat.le_refl _))
    replace Hb := Lib.hid (Hb.out.step hb1 (Nat.le_refl _))
    have B1 := hb1
    have Z1 := B1.size
    clear hb1
    have hx2 := awake_any w1
    go_wp2_with fail
    refine hx2.mono ?_
    rintro e w2 ⟨rfl, hb2⟩
    clear hx2
    replace Ha := Lib.hid (Ha.out.step hb2 (Nat.le_refl _))
    replace Hb := Lib.hid (Hb.out.step hb2 (Nat.le_refl _))
    have B2 := B1.trans (hb2.mono Z1)
    have Z2 := B2.size
    clear hb2
    go_wp2
    go_ret
    exact ⟨rfl, B2⟩
  cases hfb : fineL b
  · skip
    go_enter Try.func5, Try.ntmps5
    have hx3 := fine_any _ a _ _ Ha.out
    rw [hfa] at hx3
    go_wp2_with fail
    refine hx3.mono ?_
    rintro e w3 ⟨rfl, hb3⟩
    clear hx3
    replace Ha := Lib.hid (Ha.out.step hb3 (Nat.le_refl _))
    replace Hb := Lib.hid (Hb.out.step hb3 (Nat.le_refl _))
    have B3 := hb3
    have Z3 := B3.size
    clear hb3
    have hx4 := fine_any _ b _ _ Hb.out
    rw [hfb] at hx4
    go_wp2_with fail
    refine hx4.mono ?_
    rintro e w4 ⟨rfl, hb4⟩
    clear hx4
    replace Ha := Lib.hid (Ha.out.step hb4 (Nat.le_refl _))
    replace Hb := Lib.hid (Hb.out.step hb4 (Nat.le_refl _))
    have B4 := B3.trans (hb4.mono Z3)
    have Z4 := B4.size
    clear hb4
    have hx5 := awake_any w4
    go_wp2_with fail
    refine hx5.mono ?_
    rintro e w5 ⟨rfl, hb5⟩
    clear hx5
    replace Ha := Lib.hid (Ha.out.step hb5 (Nat.le_refl _))
    replace Hb := Lib.hid (Hb.out.step hb5 (Nat.le_refl _))
    have B5 := B4.trans (hb5.mono Z4)
    have Z5 := B5.size
    clear hb5
    go_wp2
    go_ret
    exact ⟨rfl, B5⟩
  obtain ⟨la, va⟩ := fineL_iff.1 hfa
  obtain ⟨lb, vb⟩ := fineL_iff.1 hfb
  go_enter Try.func5, Try.ntmps5
  have hx6 := fine_any _ a _ _ Ha.out
  rw [hfa] at hx6
  go_wp2_with fail
  refine hx6.mono ?_
  rintro e w6 ⟨rfl, hb6⟩
  clear hx6
  replace Ha := Lib.hid (Ha.out.step hb6 (Nat.le_refl _))
  replace Hb := Lib.hid (Hb.out.step hb6 (Nat.le_refl _))
  have B6 := hb6
  have Z6 := B6.size
  clear hb6
  have hx7 := fine_any _ b _ _ Hb.out
  rw [hfb] at hx7
  go_wp2_with fail
  refine hx7.mono ?_
  rintro e w7 ⟨rfl, hb7⟩
  clear hx7
  replace Ha := Lib.hid (Ha.out.step hb7 (Nat.le_refl _))
  replace Hb := Lib.hid (Hb.out.step hb7 (Nat.le_refl _))
  have B7 := B6.trans (hb7.mono Z6)
  have Z7 := B7.size
  clear hb7
  have hx8 := pAdd_any _ _ a b _ _ _ Ha.out Hb.out va vb (by omega) (by omega)
  go_wp2_with fail
  refine hx8.mono ?_
  rintro e w8 ⟨v8, rfl, hr8, hb8⟩
  clear hx8
  replace Ha := Lib.hid (Ha.out.step hb8 (Nat.le_refl _))
  replace Hb := Lib.hid (Hb.out.step hb8 (Nat.le_refl _))
  have B8 := B7.trans (hb8.mono Z7)
  have Z8 := B8.size
  have H8 := Lib.hid hr8
  obtain ⟨A8, c8, rfl, _, _⟩ := hr8
  clear hb8
  have hx9 := (show Calls Try.prog _ _ _ (RetPers _ (cmbL 1 a b)) from rAdd_any _ _ a b _ _ _ Ha.out Hb.out (by omega) (by omega))
  go_wp2_with fail
  refine hx9.mono ?_
  rintro e w9 ⟨v9, rfl, hr9, hb9⟩
  clear hx9
  replace Ha := Lib.hid (Ha.out.step hb9 (Nat.le_refl _))
  replace Hb := Lib.hid (Hb.out.step hb9 (Nat.le_refl _))
  replace H8 := Lib.hid (H8.out.step hb9 (Nat.le_refl _))
  have B9 := B8.trans (hb9.mono Z8)
  have Z9 := B9.size
  have H9 := Lib.hid hr9
  obtain ⟨A9, c9, rfl, _, _⟩ := hr9
  clear hb9
  have hx10 := sameT_any _ _ _ _ _ _ _ H8.out H9.out
  rw [decide_eq_true rfl] at hx10
  go_wp2_with fail
  refine hx10.mono ?_
  rintro e w10 ⟨rfl, hb10⟩
  clear hx10
  replace Ha := Lib.hid (Ha.out.step hb10 (Nat.le_refl _))
  replace Hb := Lib.hid (Hb.out.step hb10 (Nat.le_refl _))
  replace H8 := Lib.hid (H8.out.step hb10 (Nat.le_refl _))
  replace H9 := Lib.hid (H9.out.step hb10 (Nat.le_refl _))
  have B10 := B9.trans (hb10.mono Z9)
  have Z10 := B10.size
  clear hb10
  clear H8
  clear H9
  have hx11 := pSub_any _ _ a b _ _ _ Ha.out Hb.out va vb (by omega) (by omega)
  go_wp2_with fail
  refine hx11.mono ?_
  rintro e w11 ⟨v11, rfl, hr11, hb11⟩
  clear hx11
  replace Ha := Lib.hid (Ha.out.step hb11 (Nat.le_refl _))
  replace Hb := Lib.hid (Hb.out.step hb11 (Nat.le_refl _))
  have B11 := B10.trans (hb11.mono Z10)
  have Z11 := B11.size
  have H11 := Lib.hid hr11
  obtain ⟨A11, c11, rfl, _, _⟩ := hr11
  clear hb11
  have hx12 := (show Calls Try.prog _ _ _ (RetPers _ (cmbL 2 a b)) from rStSub_any _ _ a b _ _ _ Ha.out Hb.out (by omega) (by omega))
  go_wp2_with fail
  refine hx12.mono ?_
  rintro e w12 ⟨v12, rfl, hr12, hb12⟩
  clear hx12
  replace Ha := Lib.hid (Ha.out.step hb12 (Nat.le_refl _))
  replace Hb := Lib.hid (Hb.out.step hb12 (Nat.le_refl _))
  replace H11 := Lib.hid (H11.out.step hb12 (Nat.le_refl _))
  have B12 := B11.trans (hb12.mono Z11)
  have Z12 := B12.size
  have H12 := Lib.hid hr12
  obtain ⟨A12, c12, rfl, _, _⟩ := hr12
  clear hb12
  have hx13 := sameT_any _ _ _ _ _ _ _ H11.out H12.out
  rw [decide_eq_true rfl] at hx13
  go_wp2_with fail
  refine hx13.mono ?_
  rintro e w13 ⟨rfl, hb13⟩
  clear hx13
  replace Ha := Lib.hid (Ha.out.step hb13 (Nat.le_refl _))
  replace Hb := Lib.hid (Hb.out.step hb13 (Nat.le_refl _))
  replace H11 := Lib.hid (H11.out.step hb13 (Nat.le_refl _))
  replace H12 := Lib.hid (H12.out.step hb13 (Nat.le_refl _))
  have B13 := B12.trans (hb13.mono Z12)
  have Z13 := B13.size
  clear hb13
  clear H11
  clear H12
  have hx14 := pMin_any _ _ a b _ _ _ Ha.out Hb.out va vb (by omega) (by omega)
  go_wp2_with fail
  refine hx14.mono ?_
  rintro e w14 ⟨v14, rfl, hr14, hb14⟩
  clear hx14
  replace Ha := Lib.hid (Ha.out.step hb14 (Nat.le_refl _))
  replace Hb := Lib.hid (Hb.out.step hb14 (Nat.le_refl _))
  have B14 := B13.trans (hb14.mono Z13)
  have Z14 := B14.size
  have H14 := Lib.hid hr14
  obtain ⟨A14, c14, rfl, _, _⟩ := hr14
  clear hb14
  have hx15 := (show Calls Try.prog _ _ _ (RetPers _ (cmbL 3 a b)) from rMin_any _ _ a b _ _ _ Ha.out Hb.out (by omega) (by omega))
  go_wp2_with fail
  refine hx15.mono ?_
  rintro e w15 ⟨v15, rfl, hr15, hb15⟩
  clear hx15
  replace Ha := Lib.hid (Ha.out.step hb15 (Nat.le_refl _))
  replace Hb := Lib.hid (Hb.out.step hb15 (Nat.le_refl _))
  replace H14 := Lib.hid (H14.out.step hb15 (Nat.le_refl _))
  have B15 := B14.trans (hb15.mono Z14)
  have Z15 := B15.size
  have H15 := Lib.hid hr15
  obtain ⟨A15, c15, rfl, _, _⟩ := hr15
  clear hb15
  have hx16 := sameT_any _ _ _ _ _ _ _ H14.out H15.out
  rw [decide_eq_true rfl] at hx16
  go_wp2_with fail
  refine hx16.mono ?_
  rintro e w16 ⟨rfl, hb16⟩
  clear hx16
  replace Ha := Lib.hid (Ha.out.step hb16 (Nat.le_refl _))
  replace Hb := Lib.hid (Hb.out.step hb16 (Nat.le_refl _))
  replace H14 := Lib.hid (H14.out.step hb16 (Nat.le_refl _))
  replace H15 := Lib.hid (H15.out.step hb16 (Nat.le_refl _))
  have B16 := B15.trans (hb16.mono Z15)
  have Z16 := B16.size
  clear hb16
  clear H14
  clear H15
  have hx17 := pMax_any _ _ a b _ _ _ Ha.out Hb.out va vb (by omega) (by omega)
  go_wp2_with fail
  refine hx17.mono ?_
  rintro e w17 ⟨v17, rfl, hr17, hb17⟩
  clear hx17
  replace Ha := Lib.hid (Ha.out.step hb17 (Nat.le_refl _))
  replace Hb := Lib.hid (Hb.out.step hb17 (Nat.le_refl _))
  have B17 := B16.trans (hb17.mono Z16)
  have Z17 := B17.size
  have H17 := Lib.hid hr17
  obtain ⟨A17, c17, rfl, _, _⟩ := hr17
  clear hb17
  have hx18 := (show Calls Try.prog _ _ _ (RetPers _ (cmbL 4 a b)) from rMax_any _ _ a b _ _ _ Ha.out Hb.out (by omega) (by omega))
  go_wp2_with fail
  refine hx18.mono ?_
  rintro e w18 ⟨v18, rfl, hr18, hb18⟩
  clear hx18
  replace Ha := Lib.hid (Ha.out.step hb18 (Nat.le_refl _))
  replace Hb := Lib.hid (Hb.out.step hb18 (Nat.le_refl _))
  replace H17 := Lib.hid (H17.out.step hb18 (Nat.le_refl _))
  have B18 := B17.trans (hb18.mono Z17)
  have Z18 := B18.size
  have H18 := Lib.hid hr18
  obtain ⟨A18, c18, rfl, _, _⟩ := hr18
  clear hb18
  have hx19 := sameT_any _ _ _ _ _ _ _ H17.out H18.out
  rw [decide_eq_true rfl] at hx19
  go_wp2_with fail
  refine hx19.mono ?_
  rintro e w19 ⟨rfl, hb19⟩
  clear hx19
  replace Ha := Lib.hid (Ha.out.step hb19 (Nat.le_refl _))
  replace Hb := Lib.hid (Hb.out.step hb19 (Nat.le_refl _))
  replace H17 := Lib.hid (H17.out.step hb19 (Nat.le_refl _))
  replace H18 := Lib.hid (H18.out.step hb19 (Nat.le_refl _))
  have B19 := B18.trans (hb19.mono Z18)
  have Z19 := B19.size
  clear hb19
  clear H17
  clear H18
  have hx20 := pClip_any _ a _ _ Ha.out va (by omega)
  go_wp2_with fail
  refine hx20.mono ?_
  rintro e w20 ⟨v20, rfl, hr20, hb20⟩
  clear hx20
  replace Ha := Lib.hid (Ha.out.step hb20 (Nat.le_refl _))
  replace Hb := Lib.hid (Hb.out.step hb20 (Nat.le_refl _))
  have B20 := B19.trans (hb20.mono Z19)
  have Z20 := B20.size
  have H20 := Lib.hid hr20
  obtain ⟨A20, c20, rfl, _, _⟩ := hr20
  clear hb20
  have hx21 := rClip_any _ a _ _ Ha.out (by omega)
  go_wp2_with fail
  refine hx21.mono ?_
  rintro e w21 ⟨v21, rfl, hr21, hb21⟩
  clear hx21
  replace Ha := Lib.hid (Ha.out.step hb21 (Nat.le_refl _))
  replace Hb := Lib.hid (Hb.out.step hb21 (Nat.le_refl _))
  replace H20 := Lib.hid (H20.out.step hb21 (Nat.le_refl _))
  have B21 := B20.trans (hb21.mono Z20)
  have Z21 := B21.size
  have H21 := Lib.hid hr21
  obtain ⟨A21, c21, rfl, _, _⟩ := hr21
  clear hb21
  have hx22 := sameT_any _ _ _ _ _ _ _ H20.out H21.out
  rw [decide_eq_true rfl] at hx22
  go_wp2_with fail
  refine hx22.mono ?_
  rintro e w22 ⟨rfl, hb22⟩
  clear hx22
  replace Ha := Lib.hid (Ha.out.step hb22 (Nat.le_refl _))
  replace Hb := Lib.hid (Hb.out.step hb22 (Nat.le_refl _))
  replace H20 := Lib.hid (H20.out.step hb22 (Nat.le_refl _))
  replace H21 := Lib.hid (H21.out.step hb22 (Nat.le_refl _))
  have B22 := B21.trans (hb22.mono Z21)
  have Z22 := B22.size
  clear hb22
  clear H20
  clear H21
  have hx23 := awake_any w22
  go_wp2_with fail
  refine hx23.mono ?_
  rintro e w23 ⟨rfl, hb23⟩
  clear hx23
  replace Ha := Lib.hid (Ha.out.step hb23 (Nat.le_refl _))
  replace Hb := Lib.hid (Hb.out.step hb23 (Nat.le_refl _))
  have B23 := B22.trans (hb23.mono Z22)
  have Z23 := B23.size
  clear hb23
  go_wp2
  go_ret
  exact ⟨rfl, B23⟩
end Go.Proofs.Ytbdioabeopnfeaa
