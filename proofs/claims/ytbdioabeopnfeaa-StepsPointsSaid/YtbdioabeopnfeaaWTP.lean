/-
  The walk of the statement StepsPoints. Conditions: the lists are read anywhere below the heap's end.
-/
import Derived.Test.YtbdioabeopnfeaaStMa
import Derived.WalkKit
import Derived.WalkSpells
import Derived.WalkLawsBesides
import Derived.Deep.QuietTactic
import Derived.BigQuiet
import Derived.Handy
import Derived.Lib.Hide
namespace Go.Proofs.Ytbdioabeopnfeaa
open Go.RowKit
theorem at_zero0 (t : Int) : atV [(0, 0)] t = 0 := by
  unfold atV
  split
  · show (if (0 : Int) ≤ t then (0 : Int) else 0) = 0
    split <;> rfl
  · rfl

set_option maxRecDepth 100000 in
set_option maxHeartbeats 12800000 in
theorem law_points (va vb : Value) (a : List (Int × Int)) (b : List (Int × Int)) (t : Int) (w : World) (La Lb : Nat) (hva : RdP w La w.heap.size va a) (hvb : RdP w Lb w.heap.size vb b) :
    Calls Try.prog 7 #[va, vb, .int .i64 t] w fun e w' => e = .returned (.bool true) ∧ Below w.heap.size w w' := by
  have Ha := Lib.hid hva
  obtain ⟨Aa, ca, rfl, _, _⟩ := hva
  have Hb := Lib.hid hvb
  obtain ⟨Ab, cb, rfl, _, _⟩ := hvb
  cases hfa : fineL a
  · skip
    go_enter Try.func7, Try.ntmps7
    have hx1 := fine_any _ a _ _ Ha.out
    rw [hfa] at hx1
    go_wp2_with fail
    refine hx1.mono ?_
    rintro e w1 ⟨rfl, hb1⟩
    clear hx1
    replace Ha := Lib.hid (Ha.out.step hb1 (Nat.le_refl _))
    replace Hb := Lib.hid (Hb.out.step hb1 (Nat.le_refl _))
    have B1 := hb1
    have Z1 := B1.size
    clear hb1
    have hx2 := awake_any w1
    go_wp2_with fail
    refine hx2.mono ?_
    rintro e w2 ⟨rfl, hb2⟩
    clear hx2
    replace Ha := Lib.hid (Ha.out.step hb2 (Nat.le_refl _))
    replace Hb := Lib.hid (Hb.out.step hb2 (Nat.le_refl _))
    have B2 := B1.trans (hb2.mono Z1)
    have Z2 := B2.size
    clear hb2
    go_wp2
    go_ret
    exact ⟨rfl, B2⟩
  cases hfb : fineL b
  · skip
    go_enter Try.func7, Try.ntmps7
    have hx3 := fine_any _ a _ _ Ha.out
    rw [hfa] at hx3
    go_wp2_with fail
    refine hx3.mono ?_
    rintro e w3 ⟨rfl, hb3⟩
    clear hx3
    replace Ha := Lib.hid (Ha.out.step hb3 (Nat.le_refl _))
    replace Hb := Lib.hid (Hb.out.step hb3 (Nat.le_refl _))
    have B3 := hb3
    have Z3 := B3.size
    clear hb3
    have hx4 := fine_any _ b _ _ Hb.out
    rw [hfb] at hx4
    go_wp2_with fail
    refine hx4.mono ?_
    rintro e w4 ⟨rfl, hb4⟩
    clear hx4
    replace Ha := Lib.hid (Ha.out.step hb4 (Nat.le_refl _))
    replace Hb := Lib.hid (Hb.out.step hb4 (Nat.le_refl _))
    have B4 := B3.trans (hb4.mono Z3)
    have Z4 := B4.size
    clear hb4
    have hx5 := awake_any w4
    go_wp2_with fail
    refine hx5.mono ?_
    rintro e w5 ⟨rfl, hb5⟩
    clear hx5
    replace Ha := Lib.hid (Ha.out.step hb5 (Nat.le_refl _))
    replace Hb := Lib.hid (Hb.out.step hb5 (Nat.le_refl _))
    have B5 := B4.trans (hb5.mono Z4)
    have Z5 := B5.size
    clear hb5
    go_wp2
    go_ret
    exact ⟨rfl, B5⟩
  obtain ⟨la, va⟩ := fineL_iff.1 hfa
  obtain ⟨lb, vb⟩ := fineL_iff.1 hfb
  go_enter Try.func7, Try.ntmps7
  have hx6 := fine_any _ a _ _ Ha.out
  rw [hfa] at hx6
  go_wp2_with fail
  refine hx6.mono ?_
  rintro e w6 ⟨rfl, hb6⟩
  clear hx6
  replace Ha := Lib.hid (Ha.out.step hb6 (Nat.le_refl _))
  replace Hb := Lib.hid (Hb.out.step hb6 (Nat.le_refl _))
  have B6 := hb6
  have Z6 := B6.size
  clear hb6
  have hx7 := fine_any _ b _ _ Hb.out
  rw [hfb] at hx7
  go_wp2_with fail
  refine hx7.mono ?_
  rintro e w7 ⟨rfl, hb7⟩
  clear hx7
  replace Ha := Lib.hid (Ha.out.step hb7 (Nat.le_refl _))
  replace Hb := Lib.hid (Hb.out.step hb7 (Nat.le_refl _))
  have B7 := B6.trans (hb7.mono Z6)
  have Z7 := B7.size
  clear hb7
  have hx8 := rStAt_any _ a t _ _ Ha.out
  go_wp2_with fail
  refine hx8.mono ?_
  rintro e w8 ⟨rfl, hb8⟩
  clear hx8
  replace Ha := Lib.hid (Ha.out.step hb8 (Nat.le_refl _))
  replace Hb := Lib.hid (Hb.out.step hb8 (Nat.le_refl _))
  have B8 := B7.trans (hb8.mono Z7)
  have Z8 := B8.size
  clear hb8
  have hx9 := rStAt_any _ b t _ _ Hb.out
  go_wp2_with fail
  refine hx9.mono ?_
  rintro e w9 ⟨rfl, hb9⟩
  clear hx9
  replace Ha := Lib.hid (Ha.out.step hb9 (Nat.le_refl _))
  replace Hb := Lib.hid (Hb.out.step hb9 (Nat.le_refl _))
  have B9 := B8.trans (hb9.mono Z8)
  have Z9 := B9.size
  clear hb9
  have hx10 := pAdd_any _ _ a b _ _ _ Ha.out Hb.out va vb (by omega) (by omega)
  go_wp2_with fail
  refine hx10.mono ?_
  rintro e w10 ⟨v10, rfl, hr10, hb10⟩
  clear hx10
  replace Ha := Lib.hid (Ha.out.step hb10 (Nat.le_refl _))
  replace Hb := Lib.hid (Hb.out.step hb10 (Nat.le_refl _))
  have B10 := B9.trans (hb10.mono Z9)
  have Z10 := B10.size
  have H10 := Lib.hid hr10
  obtain ⟨A10, c10, rfl, _, _⟩ := hr10
  clear hb10
  have hx11 := pSub_any _ _ a b _ _ _ Ha.out Hb.out va vb (by omega) (by omega)
  go_wp2_with fail
  refine hx11.mono ?_
  rintro e w11 ⟨v11, rfl, hr11, hb11⟩
  clear hx11
  replace Ha := Lib.hid (Ha.out.step hb11 (Nat.le_refl _))
  replace Hb := Lib.hid (Hb.out.step hb11 (Nat.le_refl _))
  replace H10 := Lib.hid (H10.out.step hb11 (Nat.le_refl _))
  have B11 := B10.trans (hb11.mono Z10)
  have Z11 := B11.size
  have H11 := Lib.hid hr11
  obtain ⟨A11, c11, rfl, _, _⟩ := hr11
  clear hb11
  have hx12 := pMin_any _ _ a b _ _ _ Ha.out Hb.out va vb (by omega) (by omega)
  go_wp2_with fail
  refine hx12.mono ?_
  rintro e w12 ⟨v12, rfl, hr12, hb12⟩
  clear hx12
  replace Ha := Lib.hid (Ha.out.step hb12 (Nat.le_refl _))
  replace Hb := Lib.hid (Hb.out.step hb12 (Nat.le_refl _))
  replace H10 := Lib.hid (H10.out.step hb12 (Nat.le_refl _))
  replace H11 := Lib.hid (H11.out.step hb12 (Nat.le_refl _))
  have B12 := B11.trans (hb12.mono Z11)
  have Z12 := B12.size
  have H12 := Lib.hid hr12
  obtain ⟨A12, c12, rfl, _, _⟩ := hr12
  clear hb12
  have hx13 := pMax_any _ _ a b _ _ _ Ha.out Hb.out va vb (by omega) (by omega)
  go_wp2_with fail
  refine hx13.mono ?_
  rintro e w13 ⟨v13, rfl, hr13, hb13⟩
  clear hx13
  replace Ha := Lib.hid (Ha.out.step hb13 (Nat.le_refl _))
  replace Hb := Lib.hid (Hb.out.step hb13 (Nat.le_refl _))
  replace H10 := Lib.hid (H10.out.step hb13 (Nat.le_refl _))
  replace H11 := Lib.hid (H11.out.step hb13 (Nat.le_refl _))
  replace H12 := Lib.hid (H12.out.step hb13 (Nat.le_refl _))
  have B13 := B12.trans (hb13.mono Z12)
  have Z13 := B13.size
  have H13 := Lib.hid hr13
  obtain ⟨A13, c13, rfl, _, _⟩ := hr13
  clear hb13
  have hx14 := pClip_any _ a _ _ Ha.out va (by omega)
  go_wp2_with fail
  refine hx14.mono ?_
  rintro e w14 ⟨v14, rfl, hr14, hb14⟩
  clear hx14
  replace Ha := Lib.hid (Ha.out.step hb14 (Nat.le_refl _))
  replace Hb := Lib.hid (Hb.out.step hb14 (Nat.le_refl _))
  replace H10 := Lib.hid (H10.out.step hb14 (Nat.le_refl _))
  replace H11 := Lib.hid (H11.out.step hb14 (Nat.le_refl _))
  replace H12 := Lib.hid (H12.out.step hb14 (Nat.le_refl _))
  replace H13 := Lib.hid (H13.out.step hb14 (Nat.le_refl _))
  have B14 := B13.trans (hb14.mono Z13)
  have Z14 := B14.size
  have H14 := Lib.hid hr14
  obtain ⟨A14, c14, rfl, _, _⟩ := hr14
  clear hb14
  have y1 := cmb_valid 1 va vb
  have y2 := cmb_valid 2 va vb
  have y3 := cmb_valid 3 va vb
  have y4 := cmb_valid 4 va vb
  have y5 : stV (cmbL 4 a [(0, 0)]) = true := cmb_valid 4 va (by decide)
  have l1 := cmb_len 1 a b
  have l2 := cmb_len 2 a b
  have l3 := cmb_len 3 a b
  have l4 := cmb_len 4 a b
  have l5 := cmb_len 4 a [(0, 0)]
  have l6 : ([(0, 0)] : List (Int × Int)).length = 1 := rfl
  have z1 : atV (cmbL 1 a b) t = wrap64 (atV a t + atV b t) := (cmb_val (by omega) va vb t).trans (wrap64_eq _).symm
  have z2 : atV (cmbL 2 a b) t = wrap64 (atV a t - atV b t) := (cmb_val (by omega) va vb t).trans (wrap64_eq _).symm
  have z3 : atV (cmbL 3 a b) t = min (atV a t) (atV b t) := cmb_val (by omega) va vb t
  have z4 : atV (cmbL 4 a b) t = max (atV a t) (atV b t) := cmb_val (by omega) va vb t
  have z5 : atV (cmbL 4 a [(0, 0)]) t = max (atV a t) 0 := (cmb_val (kd := 4) (by omega) va (by decide) t).trans (by rw [at_zero0]; rfl)
  generalize hx : atV a t = x at *
  generalize hy : atV b t = y at *
  have Z := Lib.hid (And.intro z1 (And.intro z2 (And.intro z3 (And.intro z4 z5))))
  clear z1 z2 z3 z4 z5 hx hy
  have hx15 := rStValid_any _ _ _ _ H10.out
  rw [y1] at hx15
  go_wp2_with fail
  refine hx15.mono ?_
  rintro e w15 ⟨rfl, hb15⟩
  clear hx15
  replace Ha := Lib.hid (Ha.out.step hb15 (Nat.le_refl _))
  replace Hb := Lib.hid (Hb.out.step hb15 (Nat.le_refl _))
  replace H10 := Lib.hid (H10.out.step hb15 (Nat.le_refl _))
  replace H11 := Lib.hid (H11.out.step hb15 (Nat.le_refl _))
  replace H12 := Lib.hid (H12.out.step hb15 (Nat.le_refl _))
  replace H13 := Lib.hid (H13.out.step hb15 (Nat.le_refl _))
  replace H14 := Lib.hid (H14.out.step hb15 (Nat.le_refl _))
  have B15 := B14.trans (hb15.mono Z14)
  have Z15 := B15.size
  clear hb15
  have hx16 := rStValid_any _ _ _ _ H11.out
  rw [y2] at hx16
  go_wp2_with fail
  refine hx16.mono ?_
  rintro e w16 ⟨rfl, hb16⟩
  clear hx16
  replace Ha := Lib.hid (Ha.out.step hb16 (Nat.le_refl _))
  replace Hb := Lib.hid (Hb.out.step hb16 (Nat.le_refl _))
  replace H10 := Lib.hid (H10.out.step hb16 (Nat.le_refl _))
  replace H11 := Lib.hid (H11.out.step hb16 (Nat.le_refl _))
  replace H12 := Lib.hid (H12.out.step hb16 (Nat.le_refl _))
  replace H13 := Lib.hid (H13.out.step hb16 (Nat.le_refl _))
  replace H14 := Lib.hid (H14.out.step hb16 (Nat.le_refl _))
  have B16 := B15.trans (hb16.mono Z15)
  have Z16 := B16.size
  clear hb16
  have hx17 := rStValid_any _ _ _ _ H12.out
  rw [y3] at hx17
  go_wp2_with fail
  refine hx17.mono ?_
  rintro e w17 ⟨rfl, hb17⟩
  clear hx17
  replace Ha := Lib.hid (Ha.out.step hb17 (Nat.le_refl _))
  replace Hb := Lib.hid (Hb.out.step hb17 (Nat.le_refl _))
  replace H10 := Lib.hid (H10.out.step hb17 (Nat.le_refl _))
  replace H11 := Lib.hid (H11.out.step hb17 (Nat.le_refl _))
  replace H12 := Lib.hid (H12.out.step hb17 (Nat.le_refl _))
  replace H13 := Lib.hid (H13.out.step hb17 (Nat.le_refl _))
  replace H14 := Lib.hid (H14.out.step hb17 (Nat.le_refl _))
  have B17 := B16.trans (hb17.mono Z16)
  have Z17 := B17.size
  clear hb17
  have hx18 := rStValid_any _ _ _ _ H13.out
  rw [y4] at hx18
  go_wp2_with fail
  refine hx18.mono ?_
  rintro e w18 ⟨rfl, hb18⟩
  clear hx18
  replace Ha := Lib.hid (Ha.out.step hb18 (Nat.le_refl _))
  replace Hb := Lib.hid (Hb.out.step hb18 (Nat.le_refl _))
  replace H10 := Lib.hid (H10.out.step hb18 (Nat.le_refl _))
  replace H11 := Lib.hid (H11.out.step hb18 (Nat.le_refl _))
  replace H12 := Lib.hid (H12.out.step hb18 (Nat.le_refl _))
  replace H13 := Lib.hid (H13.out.step hb18 (Nat.le_refl _))
  replace H14 := Lib.hid (H14.out.step hb18 (Nat.le_refl _))
  have B18 := B17.trans (hb18.mono Z17)
  have Z18 := B18.size
  clear hb18
  have hx19 := rStValid_any _ _ _ _ H14.out
  rw [y5] at hx19
  go_wp2_with fail
  refine hx19.mono ?_
  rintro e w19 ⟨rfl, hb19⟩
  clear hx19
  replace Ha := Lib.hid (Ha.out.step hb19 (Nat.le_refl _))
  replace Hb := Lib.hid (Hb.out.step hb19 (Nat.le_refl _))
  replace H10 := Lib.hid (H10.out.step hb19 (Nat.le_refl _))
  replace H11 := Lib.hid (H11.out.step hb19 (Nat.le_refl _))
  replace H12 := Lib.hid (H12.out.step hb19 (Nat.le_refl _))
  replace H13 := Lib.hid (H13.out.step hb19 (Nat.le_refl _))
  replace H14 := Lib.hid (H14.out.step hb19 (Nat.le_refl _))
  have B19 := B18.trans (hb19.mono Z18)
  have Z19 := B19.size
  clear hb19
  have hx20 := pAt_any _ _ t _ _ H10.out (stV_srt y1) (by omega)
  rw [Z.out.1] at hx20
  go_wp2_with fail
  refine hx20.mono ?_
  rintro e w20 ⟨rfl, hb20⟩
  clear hx20
  replace Ha := Lib.hid (Ha.out.step hb20 (Nat.le_refl _))
  replace Hb := Lib.hid (Hb.out.step hb20 (Nat.le_refl _))
  replace H10 := Lib.hid (H10.out.step hb20 (Nat.le_refl _))
  replace H11 := Lib.hid (H11.out.step hb20 (Nat.le_refl _))
  replace H12 := Lib.hid (H12.out.step hb20 (Nat.le_refl _))
  replace H13 := Lib.hid (H13.out.step hb20 (Nat.le_refl _))
  replace H14 := Lib.hid (H14.out.step hb20 (Nat.le_refl _))
  have B20 := B19.trans (hb20.mono Z19)
  have Z20 := B20.size
  clear hb20
  have hx21 := pAt_any _ _ t _ _ H11.out (stV_srt y2) (by omega)
  rw [Z.out.2.1] at hx21
  go_wp2_with fail
  refine hx21.mono ?_
  rintro e w21 ⟨rfl, hb21⟩
  clear hx21
  replace Ha := Lib.hid (Ha.out.step hb21 (Nat.le_refl _))
  replace Hb := Lib.hid (Hb.out.step hb21 (Nat.le_refl _))
  replace H10 := Lib.hid (H10.out.step hb21 (Nat.le_refl _))
  replace H11 := Lib.hid (H11.out.step hb21 (Nat.le_refl _))
  replace H12 := Lib.hid (H12.out.step hb21 (Nat.le_refl _))
  replace H13 := Lib.hid (H13.out.step hb21 (Nat.le_refl _))
  replace H14 := Lib.hid (H14.out.step hb21 (Nat.le_refl _))
  have B21 := B20.trans (hb21.mono Z20)
  have Z21 := B21.size
  clear hb21
  have hx22 := pAt_any _ _ t _ _ H12.out (stV_srt y3) (by omega)
  rw [Z.out.2.2.1] at hx22
  go_wp2_with fail
  refine hx22.mono ?_
  rintro e w22 ⟨rfl, hb22⟩
  clear hx22
  replace Ha := Lib.hid (Ha.out.step hb22 (Nat.le_refl _))
  replace Hb := Lib.hid (Hb.out.step hb22 (Nat.le_refl _))
  replace H10 := Lib.hid (H10.out.step hb22 (Nat.le_refl _))
  replace H11 := Lib.hid (H11.out.step hb22 (Nat.le_refl _))
  replace H12 := Lib.hid (H12.out.step hb22 (Nat.le_refl _))
  replace H13 := Lib.hid (H13.out.step hb22 (Nat.le_refl _))
  replace H14 := Lib.hid (H14.out.step hb22 (Nat.le_refl _))
  have B22 := B21.trans (hb22.mono Z21)
  have Z22 := B22.size
  clear hb22
  have hx23 := pAt_any _ _ t _ _ H13.out (stV_srt y4) (by omega)
  rw [Z.out.2.2.2.1] at hx23
  go_wp2_with fail
  refine hx23.mono ?_
  rintro e w23 ⟨rfl, hb23⟩
  clear hx23
  replace Ha := Lib.hid (Ha.out.step hb23 (Nat.le_refl _))
  replace Hb := Lib.hid (Hb.out.step hb23 (Nat.le_refl _))
  replace H10 := Lib.hid (H10.out.step hb23 (Nat.le_refl _))
  replace H11 := Lib.hid (H11.out.step hb23 (Nat.le_refl _))
  replace H12 := Lib.hid (H12.out.step hb23 (Nat.le_refl _))
  replace H13 := Lib.hid (H13.out.step hb23 (Nat.le_refl _))
  replace H14 := Lib.hid (H14.out.step hb23 (Nat.le_refl _))
  have B23 := B22.trans (hb23.mono Z22)
  have Z23 := B23.size
  clear hb23
  have hx24 := pAt_any _ _ t _ _ H14.out (stV_srt y5) (by omega)
  rw [Z.out.2.2.2.2] at hx24
  go_wp2_with fail
  refine hx24.mono ?_
  rintro e w24 ⟨rfl, hb24⟩
  clear hx24
  replace Ha := Lib.hid (Ha.out.step hb24 (Nat.le_refl _))
  replace Hb := Lib.hid (Hb.out.step hb24 (Nat.le_refl _))
  replace H10 := Lib.hid (H10.out.step hb24 (Nat.le_refl _))
  replace H11 := Lib.hid (H11.out.step hb24 (Nat.le_refl _))
  replace H12 := Lib.hid (H12.out.step hb24 (Nat.le_refl _))
  replace H13 := Lib.hid (H13.out.step hb24 (Nat.le_refl _))
  replace H14 := Lib.hid (H14.out.step hb24 (Nat.le_refl _))
  have B24 := B23.trans (hb24.mono Z23)
  have Z24 := B24.size
  clear hb24
  have hx25 := awake_any w24
  go_wp2_with fail
  refine hx25.mono ?_
  rintro e w25 ⟨rfl, hb25⟩
  clear hx25
  replace Ha := Lib.hid (Ha.out.step hb25 (Nat.le_refl _))
  replace Hb := Lib.hid (Hb.out.step hb25 (Nat.le_refl _))
  replace H10 := Lib.hid (H10.out.step hb25 (Nat.le_refl _))
  replace H11 := Lib.hid (H11.out.step hb25 (Nat.le_refl _))
  replace H12 := Lib.hid (H12.out.step hb25 (Nat.le_refl _))
  replace H13 := Lib.hid (H13.out.step hb25 (Nat.le_refl _))
  replace H14 := Lib.hid (H14.out.step hb25 (Nat.le_refl _))
  have B25 := B24.trans (hb25.mono Z24)
  have Z25 := B25.size
  clear hb25
  go_wp2
  go_ret
  exact ⟨rfl, B25⟩
end Go.Proofs.Ytbdioabeopnfeaa
