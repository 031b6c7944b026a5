/-
  The walk of the statement SpanPoints. Conditions: the lists are read anywhere below the heap's end.
-/
import Derived.Test.YtpbccbhhjnlcpaaAwkS
import Derived.Test.YtpbccbhhjnlcpaaValS
import Derived.WalkKit
import Derived.WalkSpells
import Derived.WalkLawsBesides
import Derived.Deep.QuietTactic
import Derived.BigQuiet
import Derived.Handy
import Derived.Lib.Hide
namespace Go.Proofs.Ytpbccbhhjnlcpaa
open Go.RowKit

set_option maxRecDepth 100000 in
set_option maxHeartbeats 6400000 in
theorem law_points (va vb : Value) (a b : List (Int × Int)) (t : Int) (w : World) (La Lb : Nat) (hva : RdP w La w.heap.size va a) (hvb : RdP w Lb w.heap.size vb b) :
    Calls Try.prog 6 #[va, vb, .int .i64 t] w fun e w' => e = .returned (.bool true) ∧ Below w.heap.size w w' := by
  have Ha := Lib.hid hva
  obtain ⟨Aa, ca, rfl, _, _⟩ := hva
  have Hb := Lib.hid hvb
  obtain ⟨Ab, cb, rfl, _, _⟩ := hvb
  by_cases hbiga : (a.length : Int) > 30
  · have hbda : decide ((a.length : Int) > 30) = true := by simp; omega
    go_enter Try.func6, Try.ntmps6
    go_wp2_with fail
    refine (awake_any _).mono ?_
    rintro e w1 ⟨rfl, hb1⟩
    go_wp2
    go_ret
    exact ⟨rfl, hb1⟩
  have hla : a.length ≤ 30 := by omega
  have hbda : decide ((a.length : Int) > 30) = false := by simp; omega
  by_cases hbigb : (b.length : Int) > 30
  · have hbdb : decide ((b.length : Int) > 30) = true := by simp; omega
    go_enter Try.func6, Try.ntmps6
    go_wp2_with fail
    refine (awake_any _).mono ?_
    rintro e w1 ⟨rfl, hb1⟩
    go_wp2
    go_ret
    exact ⟨rfl, hb1⟩
  have hlb : b.length ≤ 30 := by omega
  have hbdb : decide ((b.length : Int) > 30) = false := by simp; omega
  go_enter Try.func6, Try.ntmps6
  have k1 := comb_len fOr a b
  have k2 := comb_len fAnd a b
  have k3 := comb_len fSub [(0, 1099511627776)] a
  have k4 := comb_len fSub a b
  rw [show ([(0, 1099511627776)] : List (Int × Int)).length = 1 from rfl] at k3
  have KK := Lib.hid (And.intro k1 (And.intro k2 (And.intro k3 k4)))
  clear k1 k2 k3 k4
  go_wp2_with fail
  have hx1 := rMem_any _ a t _ _ Ha.out
  refine hx1.mono ?_
  rintro e w1 ⟨rfl, hb1⟩
  clear hx1
  replace Ha := Lib.hid (Ha.out.step hb1 (Nat.le_refl _))
  replace Hb := Lib.hid (Hb.out.step hb1 (Nat.le_refl _))
  have Bw1 := hb1
  have Zw1 := Bw1.size
  clear hb1
  go_wp2_with fail
  have hx2 := rMem_any _ b t _ _ Hb.out
  refine hx2.mono ?_
  rintro e w2 ⟨rfl, hb2⟩
  clear hx2
  replace Ha := Lib.hid (Ha.out.step hb2 (Nat.le_refl _))
  replace Hb := Lib.hid (Hb.out.step hb2 (Nat.le_refl _))
  have Bw2 := Bw1.trans (hb2.mono Zw1)
  have Zw2 := Bw2.size
  clear hb2
  go_wp2_with fail
  have hx3 := sUnion_any _ _ a b _ _ _ Ha.out Hb.out (by have := KK.out; omega) (by have := KK.out; omega)
  refine hx3.mono ?_
  rintro e w3 ⟨v3, rfl, hr3, hb3⟩
  clear hx3
  replace Ha := Lib.hid (Ha.out.step hb3 (Nat.le_refl _))
  replace Hb := Lib.hid (Hb.out.step hb3 (Nat.le_refl _))
  have Bw3 := Bw2.trans (hb3.mono Zw2)
  have Zw3 := Bw3.size
  have H3 := Lib.hid hr3
  clear hr3
  clear hb3
  go_wp2_with fail
  have hx4 := sIntersect_any _ _ a b _ _ _ Ha.out Hb.out (by have := KK.out; omega) (by have := KK.out; omega)
  refine hx4.mono ?_
  rintro e w4 ⟨v4, rfl, hr4, hb4⟩
  clear hx4
  replace Ha := Lib.hid (Ha.out.step hb4 (Nat.le_refl _))
  replace Hb := Lib.hid (Hb.out.step hb4 (Nat.le_refl _))
  replace H3 := Lib.hid (H3.out.step hb4 (Nat.le_refl _))
  have Bw4 := Bw3.trans (hb4.mono Zw3)
  have Zw4 := Bw4.size
  have H4 := Lib.hid hr4
  clear hr4
  clear hb4
  go_wp2_with fail
  have hx5 := sSubtract_any _ _ a b _ _ _ Ha.out Hb.out (by have := KK.out; omega) (by have := KK.out; omega)
  refine hx5.mono ?_
  rintro e w5 ⟨v5, rfl, hr5, hb5⟩
  clear hx5
  replace Ha := Lib.hid (Ha.out.step hb5 (Nat.le_refl _))
  replace Hb := Lib.hid (Hb.out.step hb5 (Nat.le_refl _))
  replace H3 := Lib.hid (H3.out.step hb5 (Nat.le_refl _))
  replace H4 := Lib.hid (H4.out.step hb5 (Nat.le_refl _))
  have Bw5 := Bw4.trans (hb5.mono Zw4)
  have Zw5 := Bw5.size
  have H5 := Lib.hid hr5
  clear hr5
  clear hb5
  go_wp2_with fail
  have hx6 := sComplement_any _ a _ _ Ha.out (by have := KK.out; omega)
  refine hx6.mono ?_
  rintro e w6 ⟨v6, rfl, hr6, hb6⟩
  clear hx6
  replace Ha := Lib.hid (Ha.out.step hb6 (Nat.le_refl _))
  replace Hb := Lib.hid (Hb.out.step hb6 (Nat.le_refl _))
  replace H3 := Lib.hid (H3.out.step hb6 (Nat.le_refl _))
  replace H4 := Lib.hid (H4.out.step hb6 (Nat.le_refl _))
  replace H5 := Lib.hid (H5.out.step hb6 (Nat.le_refl _))
  have Bw6 := Bw5.trans (hb6.mono Zw5)
  have Zw6 := Bw6.size
  have H6 := Lib.hid hr6
  clear hr6
  clear hb6
  clear Ha
  clear Hb
  go_wp2_with fail
  have hx7 := rValidL_any _ _ _ _ H3.out
  rw [comb_sp (f := fOr) rfl] at hx7
  refine hx7.mono ?_
  rintro e w7 ⟨rfl, hb7⟩
  clear hx7
  replace H3 := Lib.hid (H3.out.step hb7 (Nat.le_refl _))
  replace H4 := Lib.hid (H4.out.step hb7 (Nat.le_refl _))
  replace H5 := Lib.hid (H5.out.step hb7 (Nat.le_refl _))
  replace H6 := Lib.hid (H6.out.step hb7 (Nat.le_refl _))
  have Bw7 := Bw6.trans (hb7.mono Zw6)
  have Zw7 := Bw7.size
  clear hb7
  go_wp2_with fail
  have hx8 := rValidL_any _ _ _ _ H4.out
  rw [comb_sp (f := fAnd) rfl] at hx8
  refine hx8.mono ?_
  rintro e w8 ⟨rfl, hb8⟩
  clear hx8
  replace H3 := Lib.hid (H3.out.step hb8 (Nat.le_refl _))
  replace H4 := Lib.hid (H4.out.step hb8 (Nat.le_refl _))
  replace H5 := Lib.hid (H5.out.step hb8 (Nat.le_refl _))
  replace H6 := Lib.hid (H6.out.step hb8 (Nat.le_refl _))
  have Bw8 := Bw7.trans (hb8.mono Zw7)
  have Zw8 := Bw8.size
  clear hb8
  go_wp2_with fail
  have hx9 := rValidL_any _ _ _ _ H5.out
  rw [comb_sp (f := fSub) rfl] at hx9
  refine hx9.mono ?_
  rintro e w9 ⟨rfl, hb9⟩
  clear hx9
  replace H3 := Lib.hid (H3.out.step hb9 (Nat.le_refl _))
  replace H4 := Lib.hid (H4.out.step hb9 (Nat.le_refl _))
  replace H5 := Lib.hid (H5.out.step hb9 (Nat.le_refl _))
  replace H6 := Lib.hid (H6.out.step hb9 (Nat.le_refl _))
  have Bw9 := Bw8.trans (hb9.mono Zw8)
  have Zw9 := Bw9.size
  clear hb9
  go_wp2_with fail
  have hx10 := rValidL_any _ _ _ _ H6.out
  rw [comb_sp (f := fSub) rfl] at hx10
  refine hx10.mono ?_
  rintro e w10 ⟨rfl, hb10⟩
  clear hx10
  replace H3 := Lib.hid (H3.out.step hb10 (Nat.le_refl _))
  replace H4 := Lib.hid (H4.out.step hb10 (Nat.le_refl _))
  replace H5 := Lib.hid (H5.out.step hb10 (Nat.le_refl _))
  replace H6 := Lib.hid (H6.out.step hb10 (Nat.le_refl _))
  have Bw10 := Bw9.trans (hb10.mono Zw9)
  have Zw10 := Bw10.size
  clear hb10
  by_cases h0 : (0 : Int) ≤ t
  · by_cases h1 : t < 1099511627776
    · have hW : memL [(0, 1099511627776)] t = true := by rw [whole_mem, decide_eq_true h0, decide_eq_true h1]; rfl
      cases hA : memL a t
      · cases hB : memL b t
        · skip
          go_wp2_with fail
          have hx11 := sMem_any _ (comb fOr a b) t _ _ H3.out
          rw [(show memL (comb fOr a b) t = false by rw [comb_mem rfl, hA, hB]; rfl)] at hx11
          refine hx11.mono ?_
          rintro e w11 ⟨rfl, hb11⟩
          clear hx11
          replace H3 := Lib.hid (H3.out.step hb11 (Nat.le_refl _))
          replace H4 := Lib.hid (H4.out.step hb11 (Nat.le_refl _))
          replace H5 := Lib.hid (H5.out.step hb11 (Nat.le_refl _))
          replace H6 := Lib.hid (H6.out.step hb11 (Nat.le_refl _))
          have Bw11 := Bw10.trans (hb11.mono Zw10)
          have Zw11 := Bw11.size
          clear hb11
          go_wp2_with fail
          have hx12 := sMem_any _ (comb fAnd a b) t _ _ H4.out
          rw [(show memL (comb fAnd a b) t = false by rw [comb_mem rfl, hA, hB]; rfl)] at hx12
          refine hx12.mono ?_
          rintro e w12 ⟨rfl, hb12⟩
          clear hx12
          replace H3 := Lib.hid (H3.out.step hb12 (Nat.le_refl _))
          replace H4 := Lib.hid (H4.out.step hb12 (Nat.le_refl _))
          replace H5 := Lib.hid (H5.out.step hb12 (Nat.le_refl _))
          replace H6 := Lib.hid (H6.out.step hb12 (Nat.le_refl _))
          have Bw12 := Bw11.trans (hb12.mono Zw11)
          have Zw12 := Bw12.size
          clear hb12
          go_wp2_with fail
          have hx13 := sMem_any _ (comb fSub a b) t _ _ H5.out
          rw [(show memL (comb fSub a b) t = false by rw [comb_mem rfl, hA, hB]; rfl)] at hx13
          refine hx13.mono ?_
          rintro e w13 ⟨rfl, hb13⟩
          clear hx13
          replace H3 := Lib.hid (H3.out.step hb13 (Nat.le_refl _))
          replace H4 := Lib.hid (H4.out.step hb13 (Nat.le_refl _))
          replace H5 := Lib.hid (H5.out.step hb13 (Nat.le_refl _))
          replace H6 := Lib.hid (H6.out.step hb13 (Nat.le_refl _))
          have Bw13 := Bw12.trans (hb13.mono Zw12)
          have Zw13 := Bw13.size
          clear hb13
          go_wp2_with fail
          have hx14 := sMem_any _ (comb fSub [(0, 1099511627776)] a) t _ _ H6.out
          rw [(show memL (comb fSub [(0, 1099511627776)] a) t = true by rw [comb_mem rfl, hW, hA]; rfl)] at hx14
          refine hx14.mono ?_
          rintro e w14 ⟨rfl, hb14⟩
          clear hx14
          replace H3 := Lib.hid (H3.out.step hb14 (Nat.le_refl _))
          replace H4 := Lib.hid (H4.out.step hb14 (Nat.le_refl _))
          replace H5 := Lib.hid (H5.out.step hb14 (Nat.le_refl _))
          replace H6 := Lib.hid (H6.out.step hb14 (Nat.le_refl _))
          have Bw14 := Bw13.trans (hb14.mono Zw13)
          have Zw14 := Bw14.size
          clear hb14
          go_wp2_with fail
          have hx15 := awake_any w14
          refine hx15.mono ?_
          rintro e w15 ⟨rfl, hb15⟩
          clear hx15
          replace H3 := Lib.hid (H3.out.step hb15 (Nat.le_refl _))
          replace H4 := Lib.hid (H4.out.step hb15 (Nat.le_refl _))
          replace H5 := Lib.hid (H5.out.step hb15 (Nat.le_refl _))
          replace H6 := Lib.hid (H6.out.step hb15 (Nat.le_refl _))
          have Bw15 := Bw14.trans (hb15.mono Zw14)
          have Zw15 := Bw15.size
          clear hb15
          go_wp2
          go_ret
          exact ⟨rfl, Bw15⟩
        · skip
          go_wp2_with fail
          have hx16 := sMem_any _ (comb fOr a b) t _ _ H3.out
          rw [(show memL (comb fOr a b) t = true by rw [comb_mem rfl, hA, hB]; rfl)] at hx16
          refine hx16.mono ?_
          rintro e w16 ⟨rfl, hb16⟩
          clear hx16
          replace H3 := Lib.hid (H3.out.step hb16 (Nat.le_refl _))
          replace H4 := Lib.hid (H4.out.step hb16 (Nat.le_refl _))
          replace H5 := Lib.hid (H5.out.step hb16 (Nat.le_refl _))
          replace H6 := Lib.hid (H6.out.step hb16 (Nat.le_refl _))
          have Bw16 := Bw10.trans (hb16.mono Zw10)
          have Zw16 := Bw16.size
          clear hb16
          go_wp2_with fail
          have hx17 := sMem_any _ (comb fAnd a b) t _ _ H4.out
          rw [(show memL (comb fAnd a b) t = false by rw [comb_mem rfl, hA, hB]; rfl)] at hx17
          refine hx17.mono ?_
          rintro e w17 ⟨rfl, hb17⟩
          clear hx17
          replace H3 := Lib.hid (H3.out.step hb17 (Nat.le_refl _))
          replace H4 := Lib.hid (H4.out.step hb17 (Nat.le_refl _))
          replace H5 := Lib.hid (H5.out.step hb17 (Nat.le_refl _))
          replace H6 := Lib.hid (H6.out.step hb17 (Nat.le_refl _))
          have Bw17 := Bw16.trans (hb17.mono Zw16)
          have Zw17 := Bw17.size
          clear hb17
          go_wp2_with fail
          have hx18 := sMem_any _ (comb fSub a b) t _ _ H5.out
          rw [(show memL (comb fSub a b) t = false by rw [comb_mem rfl, hA, hB]; rfl)] at hx18
          refine hx18.mono ?_
          rintro e w18 ⟨rfl, hb18⟩
          clear hx18
          replace H3 := Lib.hid (H3.out.step hb18 (Nat.le_refl _))
          replace H4 := Lib.hid (H4.out.step hb18 (Nat.le_refl _))
          replace H5 := Lib.hid (H5.out.step hb18 (Nat.le_refl _))
          replace H6 := Lib.hid (H6.out.step hb18 (Nat.le_refl _))
          have Bw18 := Bw17.trans (hb18.mono Zw17)
          have Zw18 := Bw18.size
          clear hb18
          go_wp2_with fail
          have hx19 := sMem_any _ (comb fSub [(0, 1099511627776)] a) t _ _ H6.out
          rw [(show memL (comb fSub [(0, 1099511627776)] a) t = true by rw [comb_mem rfl, hW, hA]; rfl)] at hx19
          refine hx19.mono ?_
          rintro e w19 ⟨rfl, hb19⟩
          clear hx19
          replace H3 := Lib.hid (H3.out.step hb19 (Nat.le_refl _))
          replace H4 := Lib.hid (H4.out.step hb19 (Nat.le_refl _))
          replace H5 := Lib.hid (H5.out.step hb19 (Nat.le_refl _))
          replace H6 := Lib.hid (H6.out.step hb19 (Nat.le_refl _))
          have Bw19 := Bw18.trans (hb19.mono Zw18)
          have Zw19 := Bw19.size
          clear hb19
          go_wp2_with fail
          have hx20 := awake_any w19
          refine hx20.mono ?_
          rintro e w20 ⟨rfl, hb20⟩
          clear hx20
          replace H3 := Lib.hid (H3.out.step hb20 (Nat.le_refl _))
          replace H4 := Lib.hid (H4.out.step hb20 (Nat.le_refl _))
          replace H5 := Lib.hid (H5.out.step hb20 (Nat.le_refl _))
          replace H6 := Lib.hid (H6.out.step hb20 (Nat.le_refl _))
          have Bw20 := Bw19.trans (hb20.mono Zw19)
          have Zw20 := Bw20.size
          clear hb20
          go_wp2
          go_ret
          exact ⟨rfl, Bw20⟩
      · cases hB : memL b t
        · skip
          go_wp2_with fail
          have hx21 := sMem_any _ (comb fOr a b) t _ _ H3.out
          rw [(show memL (comb fOr a b) t = true by rw [comb_mem rfl, hA, hB]; rfl)] at hx21
          refine hx21.mono ?_
          rintro e w21 ⟨rfl, hb21⟩
          clear hx21
          replace H3 := Lib.hid (H3.out.step hb21 (Nat.le_refl _))
          replace H4 := Lib.hid (H4.out.step hb21 (Nat.le_refl _))
          replace H5 := Lib.hid (H5.out.step hb21 (Nat.le_refl _))
          replace H6 := Lib.hid (H6.out.step hb21 (Nat.le_refl _))
          have Bw21 := Bw10.trans (hb21.mono Zw10)
          have Zw21 := Bw21.size
          clear hb21
          go_wp2_with fail
          have hx22 := sMem_any _ (comb fAnd a b) t _ _ H4.out
          rw [(show memL (comb fAnd a b) t = false by rw [comb_mem rfl, hA, hB]; rfl)] at hx22
          refine hx22.mono ?_
          rintro e w22 ⟨rfl, hb22⟩
          clear hx22
          replace H3 := Lib.hid (H3.out.step hb22 (Nat.le_refl _))
          replace H4 := Lib.hid (H4.out.step hb22 (Nat.le_refl _))
          replace H5 := Lib.hid (H5.out.step hb22 (Nat.le_refl _))
          replace H6 := Lib.hid (H6.out.step hb22 (Nat.le_refl _))
          have Bw22 := Bw21.trans (hb22.mono Zw21)
          have Zw22 := Bw22.size
          clear hb22
          go_wp2_with fail
          have hx23 := sMem_any _ (comb fSub a b) t _ _ H5.out
          rw [(show memL (comb fSub a b) t = true by rw [comb_mem rfl, hA, hB]; rfl)] at hx23
          refine hx23.mono ?_
          rintro e w23 ⟨rfl, hb23⟩
          clear hx23
          replace H3 := Lib.hid (H3.out.step hb23 (Nat.le_refl _))
          replace H4 := Lib.hid (H4.out.step hb23 (Nat.le_refl _))
          replace H5 := Lib.hid (H5.out.step hb23 (Nat.le_refl _))
          replace H6 := Lib.hid (H6.out.step hb23 (Nat.le_refl _))
          have Bw23 := Bw22.trans (hb23.mono Zw22)
          have Zw23 := Bw23.size
          clear hb23
          go_wp2_with fail
          have hx24 := sMem_any _ (comb fSub [(0, 1099511627776)] a) t _ _ H6.out
          rw [(show memL (comb fSub [(0, 1099511627776)] a) t = false by rw [comb_mem rfl, hW, hA]; rfl)] at hx24
          refine hx24.mono ?_
          rintro e w24 ⟨rfl, hb24⟩
          clear hx24
          replace H3 := Lib.hid (H3.out.step hb24 (Nat.le_refl _))
          replace H4 := Lib.hid (H4.out.step hb24 (Nat.le_refl _))
          replace H5 := Lib.hid (H5.out.step hb24 (Nat.le_refl _))
          replace H6 := Lib.hid (H6.out.step hb24 (Nat.le_refl _))
          have Bw24 := Bw23.trans (hb24.mono Zw23)
          have Zw24 := Bw24.size
          clear hb24
          go_wp2_with fail
          have hx25 := awake_any w24
          refine hx25.mono ?_
          rintro e w25 ⟨rfl, hb25⟩
          clear hx25
          replace H3 := Lib.hid (H3.out.step hb25 (Nat.le_refl _))
          replace H4 := Lib.hid (H4.out.step hb25 (Nat.le_refl _))
          replace H5 := Lib.hid (H5.out.step hb25 (Nat.le_refl _))
          replace H6 := Lib.hid (H6.out.step hb25 (Nat.le_refl _))
          have Bw25 := Bw24.trans (hb25.mono Zw24)
          have Zw25 := Bw25.size
          clear hb25
          go_wp2
          go_ret
          exact ⟨rfl, Bw25⟩
        · skip
          go_wp2_with fail
          have hx26 := sMem_any _ (comb fOr a b) t _ _ H3.out
          rw [(show memL (comb fOr a b) t = true by rw [comb_mem rfl, hA, hB]; rfl)] at hx26
          refine hx26.mono ?_
          rintro e w26 ⟨rfl, hb26⟩
          clear hx26
          replace H3 := Lib.hid (H3.out.step hb26 (Nat.le_refl _))
          replace H4 := Lib.hid (H4.out.step hb26 (Nat.le_refl _))
          replace H5 := Lib.hid (H5.out.step hb26 (Nat.le_refl _))
          replace H6 := Lib.hid (H6.out.step hb26 (Nat.le_refl _))
          have Bw26 := Bw10.trans (hb26.mono Zw10)
          have Zw26 := Bw26.size
          clear hb26
          go_wp2_with fail
          have hx27 := sMem_any _ (comb fAnd a b) t _ _ H4.out
          rw [(show memL (comb fAnd a b) t = true by rw [comb_mem rfl, hA, hB]; rfl)] at hx27
          refine hx27.mono ?_
          rintro e w27 ⟨rfl, hb27⟩
          clear hx27
          replace H3 := Lib.hid (H3.out.step hb27 (Nat.le_refl _))
          replace H4 := Lib.hid (H4.out.step hb27 (Nat.le_refl _))
          replace H5 := Lib.hid (H5.out.step hb27 (Nat.le_refl _))
          replace H6 := Lib.hid (H6.out.step hb27 (Nat.le_refl _))
          have Bw27 := Bw26.trans (hb27.mono Zw26)
          have Zw27 := Bw27.size
          clear hb27
          go_wp2_with fail
          have hx28 := sMem_any _ (comb fSub a b) t _ _ H5.out
          rw [(show memL (comb fSub a b) t = false by rw [comb_mem rfl, hA, hB]; rfl)] at hx28
          refine hx28.mono ?_
          rintro e w28 ⟨rfl, hb28⟩
          clear hx28
          replace H3 := Lib.hid (H3.out.step hb28 (Nat.le_refl _))
          replace H4 := Lib.hid (H4.out.step hb28 (Nat.le_refl _))
          replace H5 := Lib.hid (H5.out.step hb28 (Nat.le_refl _))
          replace H6 := Lib.hid (H6.out.step hb28 (Nat.le_refl _))
          have Bw28 := Bw27.trans (hb28.mono Zw27)
          have Zw28 := Bw28.size
          clear hb28
          go_wp2_with fail
          have hx29 := sMem_any _ (comb fSub [(0, 1099511627776)] a) t _ _ H6.out
          rw [(show memL (comb fSub [(0, 1099511627776)] a) t = false by rw [comb_mem rfl, hW, hA]; rfl)] at hx29
          refine hx29.mono ?_
          rintro e w29 ⟨rfl, hb29⟩
          clear hx29
          replace H3 := Lib.hid (H3.out.step hb29 (Nat.le_refl _))
          replace H4 := Lib.hid (H4.out.step hb29 (Nat.le_refl _))
          replace H5 := Lib.hid (H5.out.step hb29 (Nat.le_refl _))
          replace H6 := Lib.hid (H6.out.step hb29 (Nat.le_refl _))
          have Bw29 := Bw28.trans (hb29.mono Zw28)
          have Zw29 := Bw29.size
          clear hb29
          go_wp2_with fail
          have hx30 := awake_any w29
          refine hx30.mono ?_
          rintro e w30 ⟨rfl, hb30⟩
          clear hx30
          replace H3 := Lib.hid (H3.out.step hb30 (Nat.le_refl _))
          replace H4 := Lib.hid (H4.out.step hb30 (Nat.le_refl _))
          replace H5 := Lib.hid (H5.out.step hb30 (Nat.le_refl _))
          replace H6 := Lib.hid (H6.out.step hb30 (Nat.le_refl _))
          have Bw30 := Bw29.trans (hb30.mono Zw29)
          have Zw30 := Bw30.size
          clear hb30
          go_wp2
          go_ret
          exact ⟨rfl, Bw30⟩
    · have hW : memL [(0, 1099511627776)] t = false := by rw [whole_mem, decide_eq_false h1]; simp
      cases hA : memL a t
      · cases hB : memL b t
        · skip
          go_wp2_with fail
          have hx31 := sMem_any _ (comb fOr a b) t _ _ H3.out
          rw [(show memL (comb fOr a b) t = false by rw [comb_mem rfl, hA, hB]; rfl)] at hx31
          refine hx31.mono ?_
          rintro e w31 ⟨rfl, hb31⟩
          clear hx31
          replace H3 := Lib.hid (H3.out.step hb31 (Nat.le_refl _))
          replace H4 := Lib.hid (H4.out.step hb31 (Nat.le_refl _))
          replace H5 := Lib.hid (H5.out.step hb31 (Nat.le_refl _))
          replace H6 := Lib.hid (H6.out.step hb31 (Nat.le_refl _))
          have Bw31 := Bw10.trans (hb31.mono Zw10)
          have Zw31 := Bw31.size
          clear hb31
          go_wp2_with fail
          have hx32 := sMem_any _ (comb fAnd a b) t _ _ H4.out
          rw [(show memL (comb fAnd a b) t = false by rw [comb_mem rfl, hA, hB]; rfl)] at hx32
          refine hx32.mono ?_
          rintro e w32 ⟨rfl, hb32⟩
          clear hx32
          replace H3 := Lib.hid (H3.out.step hb32 (Nat.le_refl _))
          replace H4 := Lib.hid (H4.out.step hb32 (Nat.le_refl _))
          replace H5 := Lib.hid (H5.out.step hb32 (Nat.le_refl _))
          replace H6 := Lib.hid (H6.out.step hb32 (Nat.le_refl _))
          have Bw32 := Bw31.trans (hb32.mono Zw31)
          have Zw32 := Bw32.size
          clear hb32
          go_wp2_with fail
          have hx33 := sMem_any _ (comb fSub a b) t _ _ H5.out
          rw [(show memL (comb fSub a b) t = false by rw [comb_mem rfl, hA, hB]; rfl)] at hx33
          refine hx33.mono ?_
          rintro e w33 ⟨rfl, hb33⟩
          clear hx33
          replace H3 := Lib.hid (H3.out.step hb33 (Nat.le_refl _))
          replace H4 := Lib.hid (H4.out.step hb33 (Nat.le_refl _))
          replace H5 := Lib.hid (H5.out.step hb33 (Nat.le_refl _))
          replace H6 := Lib.hid (H6.out.step hb33 (Nat.le_refl _))
          have Bw33 := Bw32.trans (hb33.mono Zw32)
          have Zw33 := Bw33.size
          clear hb33
          go_wp2_with fail
          have hx34 := sMem_any _ (comb fSub [(0, 1099511627776)] a) t _ _ H6.out
          rw [(show memL (comb fSub [(0, 1099511627776)] a) t = false by rw [comb_mem rfl, hW, hA]; rfl)] at hx34
          refine hx34.mono ?_
          rintro e w34 ⟨rfl, hb34⟩
          clear hx34
          replace H3 := Lib.hid (H3.out.step hb34 (Nat.le_refl _))
          replace H4 := Lib.hid (H4.out.step hb34 (Nat.le_refl _))
          replace H5 := Lib.hid (H5.out.step hb34 (Nat.le_refl _))
          replace H6 := Lib.hid (H6.out.step hb34 (Nat.le_refl _))
          have Bw34 := Bw33.trans (hb34.mono Zw33)
          have Zw34 := Bw34.size
          clear hb34
          go_wp2_with fail
          have hx35 := awake_any w34
          refine hx35.mono ?_
          rintro e w35 ⟨rfl, hb35⟩
          clear hx35
          replace H3 := Lib.hid (H3.out.step hb35 (Nat.le_refl _))
          replace H4 := Lib.hid (H4.out.step hb35 (Nat.le_refl _))
          replace H5 := Lib.hid (H5.out.step hb35 (Nat.le_refl _))
          replace H6 := Lib.hid (H6.out.step hb35 (Nat.le_refl _))
          have Bw35 := Bw34.trans (hb35.mono Zw34)
          have Zw35 := Bw35.size
          clear hb35
          go_wp2
          go_ret
          exact ⟨rfl, Bw35⟩
        · skip
          go_wp2_with fail
          have hx36 := sMem_any _ (comb fOr a b) t _ _ H3.out
          rw [(show memL (comb fOr a b) t = true by rw [comb_mem rfl, hA, hB]; rfl)] at hx36
          refine hx36.mono ?_
          rintro e w36 ⟨rfl, hb36⟩
          clear hx36
          replace H3 := Lib.hid (H3.out.step hb36 (Nat.le_refl _))
          replace H4 := Lib.hid (H4.out.step hb36 (Nat.le_refl _))
          replace H5 := Lib.hid (H5.out.step hb36 (Nat.le_refl _))
          replace H6 := Lib.hid (H6.out.step hb36 (Nat.le_refl _))
          have Bw36 := Bw10.trans (hb36.mono Zw10)
          have Zw36 := Bw36.size
          clear hb36
          go_wp2_with fail
          have hx37 := sMem_any _ (comb fAnd a b) t _ _ H4.out
          rw [(show memL (comb fAnd a b) t = false by rw [comb_mem rfl, hA, hB]; rfl)] at hx37
          refine hx37.mono ?_
          rintro e w37 ⟨rfl, hb37⟩
          clear hx37
          replace H3 := Lib.hid (H3.out.step hb37 (Nat.le_refl _))
          replace H4 := Lib.hid (H4.out.step hb37 (Nat.le_refl _))
          replace H5 := Lib.hid (H5.out.step hb37 (Nat.le_refl _))
          replace H6 := Lib.hid (H6.out.step hb37 (Nat.le_refl _))
          have Bw37 := Bw36.trans (hb37.mono Zw36)
          have Zw37 := Bw37.size
          clear hb37
          go_wp2_with fail
          have hx38 := sMem_any _ (comb fSub a b) t _ _ H5.out
          rw [(show memL (comb fSub a b) t = false by rw [comb_mem rfl, hA, hB]; rfl)] at hx38
          refine hx38.mono ?_
          rintro e w38 ⟨rfl, hb38⟩
          clear hx38
          replace H3 := Lib.hid (H3.out.step hb38 (Nat.le_refl _))
          replace H4 := Lib.hid (H4.out.step hb38 (Nat.le_refl _))
          replace H5 := Lib.hid (H5.out.step hb38 (Nat.le_refl _))
          replace H6 := Lib.hid (H6.out.step hb38 (Nat.le_refl _))
          have Bw38 := Bw37.trans (hb38.mono Zw37)
          have Zw38 := Bw38.size
          clear hb38
          go_wp2_with fail
          have hx39 := sMem_any _ (comb fSub [(0, 1099511627776)] a) t _ _ H6.out
          rw [(show memL (comb fSub [(0, 1099511627776)] a) t = false by rw [comb_mem rfl, hW, hA]; rfl)] at hx39
          refine hx39.mono ?_
          rintro e w39 ⟨rfl, hb39⟩
          clear hx39
          replace H3 := Lib.hid (H3.out.step hb39 (Nat.le_refl _))
          replace H4 := Lib.hid (H4.out.step hb39 (Nat.le_refl _))
          replace H5 := Lib.hid (H5.out.step hb39 (Nat.le_refl _))
          replace H6 := Lib.hid (H6.out.step hb39 (Nat.le_refl _))
          have Bw39 := Bw38.trans (hb39.mono Zw38)
          have Zw39 := Bw39.size
          clear hb39
          go_wp2_with fail
          have hx40 := awake_any w39
          refine hx40.mono ?_
          rintro e w40 ⟨rfl, hb40⟩
          clear hx40
          replace H3 := Lib.hid (H3.out.step hb40 (Nat.le_refl _))
          replace H4 := Lib.hid (H4.out.step hb40 (Nat.le_refl _))
          replace H5 := Lib.hid (H5.out.step hb40 (Nat.le_refl _))
          replace H6 := Lib.hid (H6.out.step hb40 (Nat.le_refl _))
          have Bw40 := Bw39.trans (hb40.mono Zw39)
          have Zw40 := Bw40.size
          clear hb40
          go_wp2
          go_ret
          exact ⟨rfl, Bw40⟩
      · cases hB : memL b t
        · skip
          go_wp2_with fail
          have hx41 := sMem_any _ (comb fOr a b) t _ _ H3.out
          rw [(show memL (comb fOr a b) t = true by rw [comb_mem rfl, hA, hB]; rfl)] at hx41
          refine hx41.mono ?_
          rintro e w41 ⟨rfl, hb41⟩
          clear hx41
          replace H3 := Lib.hid (H3.out.step hb41 (Nat.le_refl _))
          replace H4 := Lib.hid (H4.out.step hb41 (Nat.le_refl _))
          replace H5 := Lib.hid (H5.out.step hb41 (Nat.le_refl _))
          replace H6 := Lib.hid (H6.out.step hb41 (Nat.le_refl _))
          have Bw41 := Bw10.trans (hb41.mono Zw10)
          have Zw41 := Bw41.size
          clear hb41
          go_wp2_with fail
          have hx42 := sMem_any _ (comb fAnd a b) t _ _ H4.out
          rw [(show memL (comb fAnd a b) t = false by rw [comb_mem rfl, hA, hB]; rfl)] at hx42
          refine hx42.mono ?_
          rintro e w42 ⟨rfl, hb42⟩
          clear hx42
          replace H3 := Lib.hid (H3.out.step hb42 (Nat.le_refl _))
          replace H4 := Lib.hid (H4.out.step hb42 (Nat.le_refl _))
          replace H5 := Lib.hid (H5.out.step hb42 (Nat.le_refl _))
          replace H6 := Lib.hid (H6.out.step hb42 (Nat.le_refl _))
          have Bw42 := Bw41.trans (hb42.mono Zw41)
          have Zw42 := Bw42.size
          clear hb42
          go_wp2_with fail
          have hx43 := sMem_any _ (comb fSub a b) t _ _ H5.out
          rw [(show memL (comb fSub a b) t = true by rw [comb_mem rfl, hA, hB]; rfl)] at hx43
          refine hx43.mono ?_
          rintro e w43 ⟨rfl, hb43⟩
          clear hx43
          replace H3 := Lib.hid (H3.out.step hb43 (Nat.le_refl _))
          replace H4 := Lib.hid (H4.out.step hb43 (Nat.le_refl _))
          replace H5 := Lib.hid (H5.out.step hb43 (Nat.le_refl _))
          replace H6 := Lib.hid (H6.out.step hb43 (Nat.le_refl _))
          have Bw43 := Bw42.trans (hb43.mono Zw42)
          have Zw43 := Bw43.size
          clear hb43
          go_wp2_with fail
          have hx44 := sMem_any _ (comb fSub [(0, 1099511627776)] a) t _ _ H6.out
          rw [(show memL (comb fSub [(0, 1099511627776)] a) t = false by rw [comb_mem rfl, hW, hA]; rfl)] at hx44
          refine hx44.mono ?_
          rintro e w44 ⟨rfl, hb44⟩
          clear hx44
          replace H3 := Lib.hid (H3.out.step hb44 (Nat.le_refl _))
          replace H4 := Lib.hid (H4.out.step hb44 (Nat.le_refl _))
          replace H5 := Lib.hid (H5.out.step hb44 (Nat.le_refl _))
          replace H6 := Lib.hid (H6.out.step hb44 (Nat.le_refl _))
          have Bw44 := Bw43.trans (hb44.mono Zw43)
          have Zw44 := Bw44.size
          clear hb44
          go_wp2_with fail
          have hx45 := awake_any w44
          refine hx45.mono ?_
          rintro e w45 ⟨rfl, hb45⟩
          clear hx45
          replace H3 := Lib.hid (H3.out.step hb45 (Nat.le_refl _))
          replace H4 := Lib.hid (H4.out.step hb45 (Nat.le_refl _))
          replace H5 := Lib.hid (H5.out.step hb45 (Nat.le_refl _))
          replace H6 := Lib.hid (H6.out.step hb45 (Nat.le_refl _))
          have Bw45 := Bw44.trans (hb45.mono Zw44)
          have Zw45 := Bw45.size
          clear hb45
          go_wp2
          go_ret
          exact ⟨rfl, Bw45⟩
        · skip
          go_wp2_with fail
          have hx46 := sMem_any _ (comb fOr a b) t _ _ H3.out
          rw [(show memL (comb fOr a b) t = true by rw [comb_mem rfl, hA, hB]; rfl)] at hx46
          refine hx46.mono ?_
          rintro e w46 ⟨rfl, hb46⟩
          clear hx46
          replace H3 := Lib.hid (H3.out.step hb46 (Nat.le_refl _))
          replace H4 := Lib.hid (H4.out.step hb46 (Nat.le_refl _))
          replace H5 := Lib.hid (H5.out.step hb46 (Nat.le_refl _))
          replace H6 := Lib.hid (H6.out.step hb46 (Nat.le_refl _))
          have Bw46 := Bw10.trans (hb46.mono Zw10)
          have Zw46 := Bw46.size
          clear hb46
          go_wp2_with fail
          have hx47 := sMem_any _ (comb fAnd a b) t _ _ H4.out
          rw [(show memL (comb fAnd a b) t = true by rw [comb_mem rfl, hA, hB]; rfl)] at hx47
          refine hx47.mono ?_
          rintro e w47 ⟨rfl, hb47⟩
          clear hx47
          replace H3 := Lib.hid (H3.out.step hb47 (Nat.le_refl _))
          replace H4 := Lib.hid (H4.out.step hb47 (Nat.le_refl _))
          replace H5 := Lib.hid (H5.out.step hb47 (Nat.le_refl _))
          replace H6 := Lib.hid (H6.out.step hb47 (Nat.le_refl _))
          have Bw47 := Bw46.trans (hb47.mono Zw46)
          have Zw47 := Bw47.size
          clear hb47
          go_wp2_with fail
          have hx48 := sMem_any _ (comb fSub a b) t _ _ H5.out
          rw [(show memL (comb fSub a b) t = false by rw [comb_mem rfl, hA, hB]; rfl)] at hx48
          refine hx48.mono ?_
          rintro e w48 ⟨rfl, hb48⟩
          clear hx48
          replace H3 := Lib.hid (H3.out.step hb48 (Nat.le_refl _))
          replace H4 := Lib.hid (H4.out.step hb48 (Nat.le_refl _))
          replace H5 := Lib.hid (H5.out.step hb48 (Nat.le_refl _))
          replace H6 := Lib.hid (H6.out.step hb48 (Nat.le_refl _))
          have Bw48 := Bw47.trans (hb48.mono Zw47)
          have Zw48 := Bw48.size
          clear hb48
          go_wp2_with fail
          have hx49 := sMem_any _ (comb fSub [(0, 1099511627776)] a) t _ _ H6.out
          rw [(show memL (comb fSub [(0, 1099511627776)] a) t = false by rw [comb_mem rfl, hW, hA]; rfl)] at hx49
          refine hx49.mono ?_
          rintro e w49 ⟨rfl, hb49⟩
          clear hx49
          replace H3 := Lib.hid (H3.out.step hb49 (Nat.le_refl _))
          replace H4 := Lib.hid (H4.out.step hb49 (Nat.le_refl _))
          replace H5 := Lib.hid (H5.out.step hb49 (Nat.le_refl _))
          replace H6 := Lib.hid (H6.out.step hb49 (Nat.le_refl _))
          have Bw49 := Bw48.trans (hb49.mono Zw48)
          have Zw49 := Bw49.size
          clear hb49
          go_wp2_with fail
          have hx50 := awake_any w49
          refine hx50.mono ?_
          rintro e w50 ⟨rfl, hb50⟩
          clear hx50
          replace H3 := Lib.hid (H3.out.step hb50 (Nat.le_refl _))
          replace H4 := Lib.hid (H4.out.step hb50 (Nat.le_refl _))
          replace H5 := Lib.hid (H5.out.step hb50 (Nat.le_refl _))
          replace H6 := Lib.hid (H6.out.step hb50 (Nat.le_refl _))
          have Bw50 := Bw49.trans (hb50.mono Zw49)
          have Zw50 := Bw50.size
          clear hb50
          go_wp2
          go_ret
          exact ⟨rfl, Bw50⟩
  · have hW : memL [(0, 1099511627776)] t = false := by rw [whole_mem, decide_eq_false h0]; simp
    cases hA : memL a t
    · cases hB : memL b t
      · skip
        go_wp2_with fail
        have hx51 := sMem_any _ (comb fOr a b) t _ _ H3.out
        rw [(show memL (comb fOr a b) t = false by rw [comb_mem rfl, hA, hB]; rfl)] at hx51
        refine hx51.mono ?_
        rintro e w51 ⟨rfl, hb51⟩
        clear hx51
        replace H3 := Lib.hid (H3.out.step hb51 (Nat.le_refl _))
        replace H4 := Lib.hid (H4.out.step hb51 (Nat.le_refl _))
        replace H5 := Lib.hid (H5.out.step hb51 (Nat.le_refl _))
        replace H6 := Lib.hid (H6.out.step hb51 (Nat.le_refl _))
        have Bw51 := Bw10.trans (hb51.mono Zw10)
        have Zw51 := Bw51.size
        clear hb51
        go_wp2_with fail
        have hx52 := sMem_any _ (comb fAnd a b) t _ _ H4.out
        rw [(show memL (comb fAnd a b) t = false by rw [comb_mem rfl, hA, hB]; rfl)] at hx52
        refine hx52.mono ?_
        rintro e w52 ⟨rfl, hb52⟩
        clear hx52
        replace H3 := Lib.hid (H3.out.step hb52 (Nat.le_refl _))
        replace H4 := Lib.hid (H4.out.step hb52 (Nat.le_refl _))
        replace H5 := Lib.hid (H5.out.step hb52 (Nat.le_refl _))
        replace H6 := Lib.hid (H6.out.step hb52 (Nat.le_refl _))
        have Bw52 := Bw51.trans (hb52.mono Zw51)
        have Zw52 := Bw52.size
        clear hb52
        go_wp2_with fail
        have hx53 := sMem_any _ (comb fSub a b) t _ _ H5.out
        rw [(show memL (comb fSub a b) t = false by rw [comb_mem rfl, hA, hB]; rfl)] at hx53
        refine hx53.mono ?_
        rintro e w53 ⟨rfl, hb53⟩
        clear hx53
        replace H3 := Lib.hid (H3.out.step hb53 (Nat.le_refl _))
        replace H4 := Lib.hid (H4.out.step hb53 (Nat.le_refl _))
        replace H5 := Lib.hid (H5.out.step hb53 (Nat.le_refl _))
        replace H6 := Lib.hid (H6.out.step hb53 (Nat.le_refl _))
        have Bw53 := Bw52.trans (hb53.mono Zw52)
        have Zw53 := Bw53.size
        clear hb53
        go_wp2_with fail
        have hx54 := sMem_any _ (comb fSub [(0, 1099511627776)] a) t _ _ H6.out
        rw [(show memL (comb fSub [(0, 1099511627776)] a) t = false by rw [comb_mem rfl, hW, hA]; rfl)] at hx54
        refine hx54.mono ?_
        rintro e w54 ⟨rfl, hb54⟩
        clear hx54
        replace H3 := Lib.hid (H3.out.step hb54 (Nat.le_refl _))
        replace H4 := Lib.hid (H4.out.step hb54 (Nat.le_refl _))
        replace H5 := Lib.hid (H5.out.step hb54 (Nat.le_refl _))
        replace H6 := Lib.hid (H6.out.step hb54 (Nat.le_refl _))
        have Bw54 := Bw53.trans (hb54.mono Zw53)
        have Zw54 := Bw54.size
        clear hb54
        go_wp2_with fail
        have hx55 := awake_any w54
        refine hx55.mono ?_
        rintro e w55 ⟨rfl, hb55⟩
        clear hx55
        replace H3 := Lib.hid (H3.out.step hb55 (Nat.le_refl _))
        replace H4 := Lib.hid (H4.out.step hb55 (Nat.le_refl _))
        replace H5 := Lib.hid (H5.out.step hb55 (Nat.le_refl _))
        replace H6 := Lib.hid (H6.out.step hb55 (Nat.le_refl _))
        have Bw55 := Bw54.trans (hb55.mono Zw54)
        have Zw55 := Bw55.size
        clear hb55
        go_wp2
        go_ret
        exact ⟨rfl, Bw55⟩
      · skip
        go_wp2_with fail
        have hx56 := sMem_any _ (comb fOr a b) t _ _ H3.out
        rw [(show memL (comb fOr a b) t = true by rw [comb_mem rfl, hA, hB]; rfl)] at hx56
        refine hx56.mono ?_
        rintro e w56 ⟨rfl, hb56⟩
        clear hx56
        replace H3 := Lib.hid (H3.out.step hb56 (Nat.le_refl _))
        replace H4 := Lib.hid (H4.out.step hb56 (Nat.le_refl _))
        replace H5 := Lib.hid (H5.out.step hb56 (Nat.le_refl _))
        replace H6 := Lib.hid (H6.out.step hb56 (Nat.le_refl _))
        have Bw56 := Bw10.trans (hb56.mono Zw10)
        have Zw56 := Bw56.size
        clear hb56
        go_wp2_with fail
        have hx57 := sMem_any _ (comb fAnd a b) t _ _ H4.out
        rw [(show memL (comb fAnd a b) t = false by rw [comb_mem rfl, hA, hB]; rfl)] at hx57
        refine hx57.mono ?_
        rintro e w57 ⟨rfl, hb57⟩
        clear hx57
        replace H3 := Lib.hid (H3.out.step hb57 (Nat.le_refl _))
        replace H4 := Lib.hid (H4.out.step hb57 (Nat.le_refl _))
        replace H5 := Lib.hid (H5.out.step hb57 (Nat.le_refl _))
        replace H6 := Lib.hid (H6.out.step hb57 (Nat.le_refl _))
        have Bw57 := Bw56.trans (hb57.mono Zw56)
        have Zw57 := Bw57.size
        clear hb57
        go_wp2_with fail
        have hx58 := sMem_any _ (comb fSub a b) t _ _ H5.out
        rw [(show memL (comb fSub a b) t = false by rw [comb_mem rfl, hA, hB]; rfl)] at hx58
        refine hx58.mono ?_
        rintro e w58 ⟨rfl, hb58⟩
        clear hx58
        replace H3 := Lib.hid (H3.out.step hb58 (Nat.le_refl _))
        replace H4 := Lib.hid (H4.out.step hb58 (Nat.le_refl _))
        replace H5 := Lib.hid (H5.out.step hb58 (Nat.le_refl _))
        replace H6 := Lib.hid (H6.out.step hb58 (Nat.le_refl _))
        have Bw58 := Bw57.trans (hb58.mono Zw57)
        have Zw58 := Bw58.size
        clear hb58
        go_wp2_with fail
        have hx59 := sMem_any _ (comb fSub [(0, 1099511627776)] a) t _ _ H6.out
        rw [(show memL (comb fSub [(0, 1099511627776)] a) t = false by rw [comb_mem rfl, hW, hA]; rfl)] at hx59
        refine hx59.mono ?_
        rintro e w59 ⟨rfl, hb59⟩
        clear hx59
        replace H3 := Lib.hid (H3.out.step hb59 (Nat.le_refl _))
        replace H4 := Lib.hid (H4.out.step hb59 (Nat.le_refl _))
        replace H5 := Lib.hid (H5.out.step hb59 (Nat.le_refl _))
        replace H6 := Lib.hid (H6.out.step hb59 (Nat.le_refl _))
        have Bw59 := Bw58.trans (hb59.mono Zw58)
        have Zw59 := Bw59.size
        clear hb59
        go_wp2_with fail
        have hx60 := awake_any w59
        refine hx60.mono ?_
        rintro e w60 ⟨rfl, hb60⟩
        clear hx60
        replace H3 := Lib.hid (H3.out.step hb60 (Nat.le_refl _))
        replace H4 := Lib.hid (H4.out.step hb60 (Nat.le_refl _))
        replace H5 := Lib.hid (H5.out.step hb60 (Nat.le_refl _))
        replace H6 := Lib.hid (H6.out.step hb60 (Nat.le_refl _))
        have Bw60 := Bw59.trans (hb60.mono Zw59)
        have Zw60 := Bw60.size
        clear hb60
        go_wp2
        go_ret
        exact ⟨rfl, Bw60⟩
    · cases hB : memL b t
      · skip
        go_wp2_with fail
        have hx61 := sMem_any _ (comb fOr a b) t _ _ H3.out
        rw [(show memL (comb fOr a b) t = true by rw [comb_mem rfl, hA, hB]; rfl)] at hx61
        refine hx61.mono ?_
        rintro e w61 ⟨rfl, hb61⟩
        clear hx61
        replace H3 := Lib.hid (H3.out.step hb61 (Nat.le_refl _))
        replace H4 := Lib.hid (H4.out.step hb61 (Nat.le_refl _))
        replace H5 := Lib.hid (H5.out.step hb61 (Nat.le_refl _))
        replace H6 := Lib.hid (H6.out.step hb61 (Nat.le_refl _))
        have Bw61 := Bw10.trans (hb61.mono Zw10)
        have Zw61 := Bw61.size
        clear hb61
        go_wp2_with fail
        have hx62 := sMem_any _ (comb fAnd a b) t _ _ H4.out
        rw [(show memL (comb fAnd a b) t = false by rw [comb_mem rfl, hA, hB]; rfl)] at hx62
        refine hx62.mono ?_
        rintro e w62 ⟨rfl, hb62⟩
        clear hx62
        replace H3 := Lib.hid (H3.out.step hb62 (Nat.le_refl _))
        replace H4 := Lib.hid (H4.out.step hb62 (Nat.le_refl _))
        replace H5 := Lib.hid (H5.out.step hb62 (Nat.le_refl _))
        replace H6 := Lib.hid (H6.out.step hb62 (Nat.le_refl _))
        have Bw62 := Bw61.trans (hb62.mono Zw61)
        have Zw62 := Bw62.size
        clear hb62
        go_wp2_with fail
        have hx63 := sMem_any _ (comb fSub a b) t _ _ H5.out
        rw [(show memL (comb fSub a b) t = true by rw [comb_mem rfl, hA, hB]; rfl)] at hx63
        refine hx63.mono ?_
        rintro e w63 ⟨rfl, hb63⟩
        clear hx63
        replace H3 := Lib.hid (H3.out.step hb63 (Nat.le_refl _))
        replace H4 := Lib.hid (H4.out.step hb63 (Nat.le_refl _))
        replace H5 := Lib.hid (H5.out.step hb63 (Nat.le_refl _))
        replace H6 := Lib.hid (H6.out.step hb63 (Nat.le_refl _))
        have Bw63 := Bw62.trans (hb63.mono Zw62)
        have Zw63 := Bw63.size
        clear hb63
        go_wp2_with fail
        have hx64 := sMem_any _ (comb fSub [(0, 1099511627776)] a) t _ _ H6.out
        rw [(show memL (comb fSub [(0, 1099511627776)] a) t = false by rw [comb_mem rfl, hW, hA]; rfl)] at hx64
        refine hx64.mono ?_
        rintro e w64 ⟨rfl, hb64⟩
        clear hx64
        replace H3 := Lib.hid (H3.out.step hb64 (Nat.le_refl _))
        replace H4 := Lib.hid (H4.out.step hb64 (Nat.le_refl _))
        replace H5 := Lib.hid (H5.out.step hb64 (Nat.le_refl _))
        replace H6 := Lib.hid (H6.out.step hb64 (Nat.le_refl _))
        have Bw64 := Bw63.trans (hb64.mono Zw63)
        have Zw64 := Bw64.size
        clear hb64
        go_wp2_with fail
        have hx65 := awake_any w64
        refine hx65.mono ?_
        rintro e w65 ⟨rfl, hb65⟩
        clear hx65
        replace H3 := Lib.hid (H3.out.step hb65 (Nat.le_refl _))
        replace H4 := Lib.hid (H4.out.step hb65 (Nat.le_refl _))
        replace H5 := Lib.hid (H5.out.step hb65 (Nat.le_refl _))
        replace H6 := Lib.hid (H6.out.step hb65 (Nat.le_refl _))
        have Bw65 := Bw64.trans (hb65.mono Zw64)
        have Zw65 := Bw65.size
        clear hb65
        go_wp2
        go_ret
        exact ⟨rfl, Bw65⟩
      · skip
        go_wp2_with fail
        have hx66 := sMem_any _ (comb fOr a b) t _ _ H3.out
        rw [(show memL (comb fOr a b) t = true by rw [comb_mem rfl, hA, hB]; rfl)] at hx66
        refine hx66.mono ?_
        rintro e w66 ⟨rfl, hb66⟩
        clear hx66
        replace H3 := Lib.hid (H3.out.step hb66 (Nat.le_refl _))
        replace H4 := Lib.hid (H4.out.step hb66 (Nat.le_refl _))
        replace H5 := Lib.hid (H5.out.step hb66 (Nat.le_refl _))
        replace H6 := Lib.hid (H6.out.step hb66 (Nat.le_refl _))
        have Bw66 := Bw10.trans (hb66.mono Zw10)
        have Zw66 := Bw66.size
        clear hb66
        go_wp2_with fail
        have hx67 := sMem_any _ (comb fAnd a b) t _ _ H4.out
        rw [(show memL (comb fAnd a b) t = true by rw [comb_mem rfl, hA, hB]; rfl)] at hx67
        refine hx67.mono ?_
        rintro e w67 ⟨rfl, hb67⟩
        clear hx67
        replace H3 := Lib.hid (H3.out.step hb67 (Nat.le_refl _))
        replace H4 := Lib.hid (H4.out.step hb67 (Nat.le_refl _))
        replace H5 := Lib.hid (H5.out.step hb67 (Nat.le_refl _))
        replace H6 := Lib.hid (H6.out.step hb67 (Nat.le_refl _))
        have Bw67 := Bw66.trans (hb67.mono Zw66)
        have Zw67 := Bw67.size
        clear hb67
        go_wp2_with fail
        have hx68 := sMem_any _ (comb fSub a b) t _ _ H5.out
        rw [(show memL (comb fSub a b) t = false by rw [comb_mem rfl, hA, hB]; rfl)] at hx68
        refine hx68.mono ?_
        rintro e w68 ⟨rfl, hb68⟩
        clear hx68
        replace H3 := Lib.hid (H3.out.step hb68 (Nat.le_refl _))
        replace H4 := Lib.hid (H4.out.step hb68 (Nat.le_refl _))
        replace H5 := Lib.hid (H5.out.step hb68 (Nat.le_refl _))
        replace H6 := Lib.hid (H6.out.step hb68 (Nat.le_refl _))
        have Bw68 := Bw67.trans (hb68.mono Zw67)
        have Zw68 := Bw68.size
        clear hb68
        go_wp2_with fail
        have hx69 := sMem_any _ (comb fSub [(0, 1099511627776)] a) t _ _ H6.out
        rw [(show memL (comb fSub [(0, 1099511627776)] a) t = false by rw [comb_mem rfl, hW, hA]; rfl)] at hx69
        refine hx69.mono ?_
        rintro e w69 ⟨rfl, hb69⟩
        clear hx69
        replace H3 := Lib.hid (H3.out.step hb69 (Nat.le_refl _))
        replace H4 := Lib.hid (H4.out.step hb69 (Nat.le_refl _))
        replace H5 := Lib.hid (H5.out.step hb69 (Nat.le_refl _))
        replace H6 := Lib.hid (H6.out.step hb69 (Nat.le_refl _))
        have Bw69 := Bw68.trans (hb69.mono Zw68)
        have Zw69 := Bw69.size
        clear hb69
        go_wp2_with fail
        have hx70 := awake_any w69
        refine hx70.mono ?_
        rintro e w70 ⟨rfl, hb70⟩
        clear hx70
        replace H3 := Lib.hid (H3.out.step hb70 (Nat.le_refl _))
        replace H4 := Lib.hid (H4.out.step hb70 (Nat.le_refl _))
        replace H5 := Lib.hid (H5.out.step hb70 (Nat.le_refl _))
        replace H6 := Lib.hid (H6.out.step hb70 (Nat.le_refl _))
        have Bw70 := Bw69.trans (hb70.mono Zw69)
        have Zw70 := Bw70.size
        clear hb70
        go_wp2
        go_ret
        exact ⟨rfl, Bw70⟩
end Go.Proofs.Ytpbccbhhjnlcpaa
