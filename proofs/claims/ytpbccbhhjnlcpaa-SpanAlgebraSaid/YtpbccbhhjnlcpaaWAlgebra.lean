/-
  The walk of the statement SpanAlgebra. Conditions: the lists are read anywhere below the heap's end.
-/
import Derived.Test.YtpbccbhhjnlcpaaAwkS
import Derived.Test.YtpbccbhhjnlcpaaValS
import Derived.WalkKit
import Derived.WalkSpells
import Derived.WalkLawsBesides
import Derived.Deep.QuietTactic
import Derived.BigQuiet
import Derived.Handy
import Derived.Lib.Hide
namespace Go.Proofs.Ytpbccbhhjnlcpaa
open Go.RowKit

theorem memL_whole {a : List (Int × Int)} {t : Int} (h : memL a t = true) : memL [(0, 1099511627776)] t = true := by
  obtain ⟨p, _, hp⟩ := List.any_eq_true.1 h
  have := cnt_iff.1 hp
  rw [whole_mem, Bool.and_eq_true, decide_eq_true_eq, decide_eq_true_eq]
  omega
theorem alg_or (a b : List (Int × Int)) : comb fOr a b = comb fOr b a := comb_ext rfl rfl fun _ => Bool.or_comm _ _
theorem alg_and (a b : List (Int × Int)) : comb fAnd a b = comb fAnd b a := comb_ext rfl rfl fun _ => Bool.and_comm _ _
theorem alg_morgan (a b : List (Int × Int)) : comb fSub [(0, 1099511627776)] (comb fOr a b) = comb fAnd (comb fSub [(0, 1099511627776)] a) (comb fSub [(0, 1099511627776)] b) := comb_ext rfl rfl fun t => by
  rw [comb_mem rfl, comb_mem rfl, comb_mem rfl]
  cases memL [(0, 1099511627776)] t <;> cases memL a t <;> cases memL b t <;> rfl
theorem alg_sub (a b : List (Int × Int)) : comb fSub a b = comb fAnd a (comb fSub [(0, 1099511627776)] b) := comb_ext rfl rfl fun t => by
  rw [comb_mem rfl]
  have h := @memL_whole a t
  revert h
  cases memL [(0, 1099511627776)] t <;> cases memL a t <;> cases memL b t <;> simp [fSub, fAnd]
theorem alg_twice (a : List (Int × Int)) : comb fSub [(0, 1099511627776)] (comb fSub [(0, 1099511627776)] a) = ofL a := comb_ext rfl rfl fun t => by
  rw [comb_mem rfl]
  have h := @memL_whole a t
  revert h
  cases memL [(0, 1099511627776)] t <;> cases memL a t <;> simp [fSub, fA]
theorem alg_dist (a b c : List (Int × Int)) : comb fAnd (comb fOr a b) c = comb fOr (comb fAnd a c) (comb fAnd b c) := comb_ext rfl rfl fun t => by
  rw [comb_mem rfl, comb_mem rfl, comb_mem rfl]
  cases memL a t <;> cases memL b t <;> cases memL c t <;> rfl
theorem alg_assoc (a b c : List (Int × Int)) : comb fOr (comb fOr a b) c = comb fOr a (comb fOr b c) := comb_ext rfl rfl fun t => by
  rw [comb_mem rfl, comb_mem rfl]
  cases memL a t <;> cases memL b t <;> cases memL c t <;> rfl
theorem cov_of {a b : List (Int × Int)} (h : ∀ t, fSub (memL b t) (memL a t) = false) : covB a b = true := by
  have e : comb fSub b a = [] := comb_self rfl rfl fun t => (h t).trans rfl
  unfold covB
  rw [e]
  rfl
theorem alg_cov1 (a b : List (Int × Int)) : covB a (comb fAnd a b) = true := cov_of fun t => by
  rw [comb_mem rfl]
  cases memL a t <;> cases memL b t <;> rfl
theorem alg_cov2 (a b : List (Int × Int)) : covB (comb fOr a b) a = true := cov_of fun t => by
  rw [comb_mem rfl]
  cases memL a t <;> cases memL b t <;> rfl

set_option maxRecDepth 100000 in
set_option maxHeartbeats 6400000 in
theorem law_algebra (va vb vc : Value) (a b c : List (Int × Int)) (w : World) (La Lb Lc : Nat) (hva : RdP w La w.heap.size va a) (hvb : RdP w Lb w.heap.size vb b) (hvc : RdP w Lc w.heap.size vc c) :
    Calls Try.prog 7 #[va, vb, vc] w fun e w' => e = .returned (.bool true) ∧ Below w.heap.size w w' := by
  have Ha := Lib.hid hva
  obtain ⟨Aa, ca, rfl, _, _⟩ := hva
  have Hb := Lib.hid hvb
  obtain ⟨Ab, cb, rfl, _, _⟩ := hvb
  have Hc := Lib.hid hvc
  obtain ⟨Ac, cc, rfl, _, _⟩ := hvc
  by_cases hbiga : (a.length : Int) > 30
  · have hbda : decide ((a.length : Int) > 30) = true := by simp; omega
    go_enter Try.func7, Try.ntmps7
    go_wp2_with fail
    refine (awake_any _).mono ?_
    rintro e w1 ⟨rfl, hb1⟩
    go_wp2
    go_ret
    exact ⟨rfl, hb1⟩
  have hla : a.length ≤ 30 := by omega
  have hbda : decide ((a.length : Int) > 30) = false := by simp; omega
  by_cases hbigb : (b.length : Int) > 30
  · have hbdb : decide ((b.length : Int) > 30) = true := by simp; omega
    go_enter Try.func7, Try.ntmps7
    go_wp2_with fail
    refine (awake_any _).mono ?_
    rintro e w1 ⟨rfl, hb1⟩
    go_wp2
    go_ret
    exact ⟨rfl, hb1⟩
  have hlb : b.length ≤ 30 := by omega
  have hbdb : decide ((b.length : Int) > 30) = false := by simp; omega
  by_cases hbigc : (c.length : Int) > 30
  · have hbdc : decide ((c.length : Int) > 30) = true := by simp; omega
    go_enter Try.func7, Try.ntmps7
    go_wp2_with fail
    refine (awake_any _).mono ?_
    rintro e w1 ⟨rfl, hb1⟩
    go_wp2
    go_ret
    exact ⟨rfl, hb1⟩
  have hlc : c.length ≤ 30 := by omega
  have hbdc : decide ((c.length : Int) > 30) = false := by simp; omega
  go_enter Try.func7, Try.ntmps7
  have k1 := comb_len fOr a b
  have k2 := comb_len fAnd a b
  have k3 := comb_len fSub [(0, 1099511627776)] a
  have k4 := comb_len fSub [(0, 1099511627776)] b
  have k5 := comb_len fAnd a c
  have k6 := comb_len fAnd b c
  have k7 := comb_len fOr b c
  have k8 := comb_len fSub [(0, 1099511627776)] (comb fSub [(0, 1099511627776)] a)
  rw [show ([(0, 1099511627776)] : List (Int × Int)).length = 1 from rfl] at k3 k4 k8
  have KK := Lib.hid (And.intro k1 (And.intro k2 (And.intro k3 (And.intro k4 (And.intro k5 (And.intro k6 (And.intro k7 k8)))))))
  clear k1 k2 k3 k4 k5 k6 k7 k8
  go_wp2_with fail
  have hx1 := sUnion_any _ _ a b _ _ _ Ha.out Hb.out (by have := KK.out; omega) (by have := KK.out; omega)
  refine hx1.mono ?_
  rintro e w1 ⟨v1, rfl, hr1, hb1⟩
  clear hx1
  replace Ha := Lib.hid (Ha.out.step hb1 (Nat.le_refl _))
  replace Hb := Lib.hid (Hb.out.step hb1 (Nat.le_refl _))
  replace Hc := Lib.hid (Hc.out.step hb1 (Nat.le_refl _))
  have Bw1 := hb1
  have Zw1 := Bw1.size
  have H1 := Lib.hid hr1
  clear hr1
  clear hb1
  go_wp2_with fail
  have hx2 := sIntersect_any _ _ a b _ _ _ Ha.out Hb.out (by have := KK.out; omega) (by have := KK.out; omega)
  refine hx2.mono ?_
  rintro e w2 ⟨v2, rfl, hr2, hb2⟩
  clear hx2
  replace Ha := Lib.hid (Ha.out.step hb2 (Nat.le_refl _))
  replace Hb := Lib.hid (Hb.out.step hb2 (Nat.le_refl _))
  replace Hc := Lib.hid (Hc.out.step hb2 (Nat.le_refl _))
  replace H1 := Lib.hid (H1.out.step hb2 (Nat.le_refl _))
  have Bw2 := Bw1.trans (hb2.mono Zw1)
  have Zw2 := Bw2.size
  have H2 := Lib.hid hr2
  clear hr2
  clear hb2
  go_wp2_with fail
  have hx3 := sUnion_any _ _ b a _ _ _ Hb.out Ha.out (by have := KK.out; omega) (by have := KK.out; omega)
  refine hx3.mono ?_
  rintro e w3 ⟨v3, rfl, hr3, hb3⟩
  clear hx3
  replace Ha := Lib.hid (Ha.out.step hb3 (Nat.le_refl _))
  replace Hb := Lib.hid (Hb.out.step hb3 (Nat.le_refl _))
  replace Hc := Lib.hid (Hc.out.step hb3 (Nat.le_refl _))
  replace H1 := Lib.hid (H1.out.step hb3 (Nat.le_refl _))
  replace H2 := Lib.hid (H2.out.step hb3 (Nat.le_refl _))
  have Bw3 := Bw2.trans (hb3.mono Zw2)
  have Zw3 := Bw3.size
  have H3 := Lib.hid hr3
  clear hr3
  clear hb3
  go_wp2_with fail
  have hx4 := sameP_any v1 v3 _ _ _ _ _ H1.out H3.out
  rw [decide_eq_true (alg_or a b)] at hx4
  refine hx4.mono ?_
  rintro e w4 ⟨rfl, hb4⟩
  clear hx4
  replace Ha := Lib.hid (Ha.out.step hb4 (Nat.le_refl _))
  replace Hb := Lib.hid (Hb.out.step hb4 (Nat.le_refl _))
  replace Hc := Lib.hid (Hc.out.step hb4 (Nat.le_refl _))
  replace H1 := Lib.hid (H1.out.step hb4 (Nat.le_refl _))
  replace H2 := Lib.hid (H2.out.step hb4 (Nat.le_refl _))
  replace H3 := Lib.hid (H3.out.step hb4 (Nat.le_refl _))
  have Bw4 := Bw3.trans (hb4.mono Zw3)
  have Zw4 := Bw4.size
  clear hb4
  clear H3
  go_wp2_with fail
  have hx5 := sIntersect_any _ _ b a _ _ _ Hb.out Ha.out (by have := KK.out; omega) (by have := KK.out; omega)
  refine hx5.mono ?_
  rintro e w5 ⟨v5, rfl, hr5, hb5⟩
  clear hx5
  replace Ha := Lib.hid (Ha.out.step hb5 (Nat.le_refl _))
  replace Hb := Lib.hid (Hb.out.step hb5 (Nat.le_refl _))
  replace Hc := Lib.hid (Hc.out.step hb5 (Nat.le_refl _))
  replace H1 := Lib.hid (H1.out.step hb5 (Nat.le_refl _))
  replace H2 := Lib.hid (H2.out.step hb5 (Nat.le_refl _))
  have Bw5 := Bw4.trans (hb5.mono Zw4)
  have Zw5 := Bw5.size
  have H5 := Lib.hid hr5
  clear hr5
  clear hb5
  go_wp2_with fail
  have hx6 := sameP_any v2 v5 _ _ _ _ _ H2.out H5.out
  rw [decide_eq_true (alg_and a b)] at hx6
  refine hx6.mono ?_
  rintro e w6 ⟨rfl, hb6⟩
  clear hx6
  replace Ha := Lib.hid (Ha.out.step hb6 (Nat.le_refl _))
  replace Hb := Lib.hid (Hb.out.step hb6 (Nat.le_refl _))
  replace Hc := Lib.hid (Hc.out.step hb6 (Nat.le_refl _))
  replace H1 := Lib.hid (H1.out.step hb6 (Nat.le_refl _))
  replace H2 := Lib.hid (H2.out.step hb6 (Nat.le_refl _))
  replace H5 := Lib.hid (H5.out.step hb6 (Nat.le_refl _))
  have Bw6 := Bw5.trans (hb6.mono Zw5)
  have Zw6 := Bw6.size
  clear hb6
  clear H5
  go_wp2_with fail
  have hx7 := sComplement_any _ (comb fOr a b) _ _ H1.out (by have := KK.out; omega)
  refine hx7.mono ?_
  rintro e w7 ⟨v7, rfl, hr7, hb7⟩
  clear hx7
  replace Ha := Lib.hid (Ha.out.step hb7 (Nat.le_refl _))
  replace Hb := Lib.hid (Hb.out.step hb7 (Nat.le_refl _))
  replace Hc := Lib.hid (Hc.out.step hb7 (Nat.le_refl _))
  replace H1 := Lib.hid (H1.out.step hb7 (Nat.le_refl _))
  replace H2 := Lib.hid (H2.out.step hb7 (Nat.le_refl _))
  have Bw7 := Bw6.trans (hb7.mono Zw6)
  have Zw7 := Bw7.size
  have H7 := Lib.hid hr7
  clear hr7
  clear hb7
  go_wp2_with fail
  have hx8 := sComplement_any _ a _ _ Ha.out (by have := KK.out; omega)
  refine hx8.mono ?_
  rintro e w8 ⟨v8, rfl, hr8, hb8⟩
  clear hx8
  replace Ha := Lib.hid (Ha.out.step hb8 (Nat.le_refl _))
  replace Hb := Lib.hid (Hb.out.step hb8 (Nat.le_refl _))
  replace Hc := Lib.hid (Hc.out.step hb8 (Nat.le_refl _))
  replace H1 := Lib.hid (H1.out.step hb8 (Nat.le_refl _))
  replace H2 := Lib.hid (H2.out.step hb8 (Nat.le_refl _))
  replace H7 := Lib.hid (H7.out.step hb8 (Nat.le_refl _))
  have Bw8 := Bw7.trans (hb8.mono Zw7)
  have Zw8 := Bw8.size
  have H8 := Lib.hid hr8
  clear hr8
  clear hb8
  go_wp2_with fail
  have hx9 := sComplement_any _ b _ _ Hb.out (by have := KK.out; omega)
  refine hx9.mono ?_
  rintro e w9 ⟨v9, rfl, hr9, hb9⟩
  clear hx9
  replace Ha := Lib.hid (Ha.out.step hb9 (Nat.le_refl _))
  replace Hb := Lib.hid (Hb.out.step hb9 (Nat.le_refl _))
  replace Hc := Lib.hid (Hc.out.step hb9 (Nat.le_refl _))
  replace H1 := Lib.hid (H1.out.step hb9 (Nat.le_refl _))
  replace H2 := Lib.hid (H2.out.step hb9 (Nat.le_refl _))
  replace H7 := Lib.hid (H7.out.step hb9 (Nat.le_refl _))
  replace H8 := Lib.hid (H8.out.step hb9 (Nat.le_refl _))
  have Bw9 := Bw8.trans (hb9.mono Zw8)
  have Zw9 := Bw9.size
  have H9 := Lib.hid hr9
  clear hr9
  clear hb9
  go_wp2_with fail
  have hx10 := sIntersect_any _ _ (comb fSub [(0, 1099511627776)] a) (comb fSub [(0, 1099511627776)] b) _ _ _ H8.out H9.out (by have := KK.out; omega) (by have := KK.out; omega)
  refine hx10.mono ?_
  rintro e w10 ⟨v10, rfl, hr10, hb10⟩
  clear hx10
  replace Ha := Lib.hid (Ha.out.step hb10 (Nat.le_refl _))
  replace Hb := Lib.hid (Hb.out.step hb10 (Nat.le_refl _))
  replace Hc := Lib.hid (Hc.out.step hb10 (Nat.le_refl _))
  replace H1 := Lib.hid (H1.out.step hb10 (Nat.le_refl _))
  replace H2 := Lib.hid (H2.out.step hb10 (Nat.le_refl _))
  replace H7 := Lib.hid (H7.out.step hb10 (Nat.le_refl _))
  replace H8 := Lib.hid (H8.out.step hb10 (Nat.le_refl _))
  replace H9 := Lib.hid (H9.out.step hb10 (Nat.le_refl _))
  have Bw10 := Bw9.trans (hb10.mono Zw9)
  have Zw10 := Bw10.size
  have H10 := Lib.hid hr10
  clear hr10
  clear hb10
  clear H8
  clear H9
  go_wp2_with fail
  have hx11 := sameP_any v7 v10 _ _ _ _ _ H7.out H10.out
  rw [decide_eq_true (alg_morgan a b)] at hx11
  refine hx11.mono ?_
  rintro e w11 ⟨rfl, hb11⟩
  clear hx11
  replace Ha := Lib.hid (Ha.out.step hb11 (Nat.le_refl _))
  replace Hb := Lib.hid (Hb.out.step hb11 (Nat.le_refl _))
  replace Hc := Lib.hid (Hc.out.step hb11 (Nat.le_refl _))
  replace H1 := Lib.hid (H1.out.step hb11 (Nat.le_refl _))
  replace H2 := Lib.hid (H2.out.step hb11 (Nat.le_refl _))
  replace H7 := Lib.hid (H7.out.step hb11 (Nat.le_refl _))
  replace H10 := Lib.hid (H10.out.step hb11 (Nat.le_refl _))
  have Bw11 := Bw10.trans (hb11.mono Zw10)
  have Zw11 := Bw11.size
  clear hb11
  clear H7
  clear H10
  go_wp2_with fail
  have hx12 := sSubtract_any _ _ a b _ _ _ Ha.out Hb.out (by have := KK.out; omega) (by have := KK.out; omega)
  refine hx12.mono ?_
  rintro e w12 ⟨v12, rfl, hr12, hb12⟩
  clear hx12
  replace Ha := Lib.hid (Ha.out.step hb12 (Nat.le_refl _))
  replace Hb := Lib.hid (Hb.out.step hb12 (Nat.le_refl _))
  replace Hc := Lib.hid (Hc.out.step hb12 (Nat.le_refl _))
  replace H1 := Lib.hid (H1.out.step hb12 (Nat.le_refl _))
  replace H2 := Lib.hid (H2.out.step hb12 (Nat.le_refl _))
  have Bw12 := Bw11.trans (hb12.mono Zw11)
  have Zw12 := Bw12.size
  have H12 := Lib.hid hr12
  clear hr12
  clear hb12
  go_wp2_with fail
  have hx13 := sComplement_any _ b _ _ Hb.out (by have := KK.out; omega)
  refine hx13.mono ?_
  rintro e w13 ⟨v13, rfl, hr13, hb13⟩
  clear hx13
  replace Ha := Lib.hid (Ha.out.step hb13 (Nat.le_refl _))
  replace Hb := Lib.hid (Hb.out.step hb13 (Nat.le_refl _))
  replace Hc := Lib.hid (Hc.out.step hb13 (Nat.le_refl _))
  replace H1 := Lib.hid (H1.out.step hb13 (Nat.le_refl _))
  replace H2 := Lib.hid (H2.out.step hb13 (Nat.le_refl _))
  replace H12 := Lib.hid (H12.out.step hb13 (Nat.le_refl _))
  have Bw13 := Bw12.trans (hb13.mono Zw12)
  have Zw13 := Bw13.size
  have H13 := Lib.hid hr13
  clear hr13
  clear hb13
  go_wp2_with fail
  have hx14 := sIntersect_any _ _ a (comb fSub [(0, 1099511627776)] b) _ _ _ Ha.out H13.out (by have := KK.out; omega) (by have := KK.out; omega)
  refine hx14.mono ?_
  rintro e w14 ⟨v14, rfl, hr14, hb14⟩
  clear hx14
  replace Ha := Lib.hid (Ha.out.step hb14 (Nat.le_refl _))
  replace Hb := Lib.hid (Hb.out.step hb14 (Nat.le_refl _))
  replace Hc := Lib.hid (Hc.out.step hb14 (Nat.le_refl _))
  replace H1 := Lib.hid (H1.out.step hb14 (Nat.le_refl _))
  replace H2 := Lib.hid (H2.out.step hb14 (Nat.le_refl _))
  replace H12 := Lib.hid (H12.out.step hb14 (Nat.le_refl _))
  replace H13 := Lib.hid (H13.out.step hb14 (Nat.le_refl _))
  have Bw14 := Bw13.trans (hb14.mono Zw13)
  have Zw14 := Bw14.size
  have H14 := Lib.hid hr14
  clear hr14
  clear hb14
  clear H13
  go_wp2_with fail
  have hx15 := sameP_any v12 v14 _ _ _ _ _ H12.out H14.out
  rw [decide_eq_true (alg_sub a b)] at hx15
  refine hx15.mono ?_
  rintro e w15 ⟨rfl, hb15⟩
  clear hx15
  replace Ha := Lib.hid (Ha.out.step hb15 (Nat.le_refl _))
  replace Hb := Lib.hid (Hb.out.step hb15 (Nat.le_refl _))
  replace Hc := Lib.hid (Hc.out.step hb15 (Nat.le_refl _))
  replace H1 := Lib.hid (H1.out.step hb15 (Nat.le_refl _))
  replace H2 := Lib.hid (H2.out.step hb15 (Nat.le_refl _))
  replace H12 := Lib.hid (H12.out.step hb15 (Nat.le_refl _))
  replace H14 := Lib.hid (H14.out.step hb15 (Nat.le_refl _))
  have Bw15 := Bw14.trans (hb15.mono Zw14)
  have Zw15 := Bw15.size
  clear hb15
  clear H12
  clear H14
  go_wp2_with fail
  have hx16 := sComplement_any _ a _ _ Ha.out (by have := KK.out; omega)
  refine hx16.mono ?_
  rintro e w16 ⟨v16, rfl, hr16, hb16⟩
  clear hx16
  replace Ha := Lib.hid (Ha.out.step hb16 (Nat.le_refl _))
  replace Hb := Lib.hid (Hb.out.step hb16 (Nat.le_refl _))
  replace Hc := Lib.hid (Hc.out.step hb16 (Nat.le_refl _))
  replace H1 := Lib.hid (H1.out.step hb16 (Nat.le_refl _))
  replace H2 := Lib.hid (H2.out.step hb16 (Nat.le_refl _))
  have Bw16 := Bw15.trans (hb16.mono Zw15)
  have Zw16 := Bw16.size
  have H16 := Lib.hid hr16
  clear hr16
  clear hb16
  go_wp2_with fail
  have hx17 := sComplement_any _ (comb fSub [(0, 1099511627776)] a) _ _ H16.out (by have := KK.out; omega)
  refine hx17.mono ?_
  rintro e w17 ⟨v17, rfl, hr17, hb17⟩
  clear hx17
  replace Ha := Lib.hid (Ha.out.step hb17 (Nat.le_refl _))
  replace Hb := Lib.hid (Hb.out.step hb17 (Nat.le_refl _))
  replace Hc := Lib.hid (Hc.out.step hb17 (Nat.le_refl _))
  replace H1 := Lib.hid (H1.out.step hb17 (Nat.le_refl _))
  replace H2 := Lib.hid (H2.out.step hb17 (Nat.le_refl _))
  replace H16 := Lib.hid (H16.out.step hb17 (Nat.le_refl _))
  have Bw17 := Bw16.trans (hb17.mono Zw16)
  have Zw17 := Bw17.size
  have H17 := Lib.hid hr17
  clear hr17
  clear hb17
  clear H16
  go_wp2_with fail
  have hx18 := sOf_any _ a _ _ Ha.out (by have := KK.out; omega)
  refine hx18.mono ?_
  rintro e w18 ⟨v18, rfl, hr18, hb18⟩
  clear hx18
  replace Ha := Lib.hid (Ha.out.step hb18 (Nat.le_refl _))
  replace Hb := Lib.hid (Hb.out.step hb18 (Nat.le_refl _))
  replace Hc := Lib.hid (Hc.out.step hb18 (Nat.le_refl _))
  replace H1 := Lib.hid (H1.out.step hb18 (Nat.le_refl _))
  replace H2 := Lib.hid (H2.out.step hb18 (Nat.le_refl _))
  replace H17 := Lib.hid (H17.out.step hb18 (Nat.le_refl _))
  have Bw18 := Bw17.trans (hb18.mono Zw17)
  have Zw18 := Bw18.size
  have H18 := Lib.hid hr18
  clear hr18
  clear hb18
  go_wp2_with fail
  have hx19 := sameP_any v17 v18 _ _ _ _ _ H17.out H18.out
  rw [decide_eq_true (alg_twice a)] at hx19
  refine hx19.mono ?_
  rintro e w19 ⟨rfl, hb19⟩
  clear hx19
  replace Ha := Lib.hid (Ha.out.step hb19 (Nat.le_refl _))
  replace Hb := Lib.hid (Hb.out.step hb19 (Nat.le_refl _))
  replace Hc := Lib.hid (Hc.out.step hb19 (Nat.le_refl _))
  replace H1 := Lib.hid (H1.out.step hb19 (Nat.le_refl _))
  replace H2 := Lib.hid (H2.out.step hb19 (Nat.le_refl _))
  replace H17 := Lib.hid (H17.out.step hb19 (Nat.le_refl _))
  replace H18 := Lib.hid (H18.out.step hb19 (Nat.le_refl _))
  have Bw19 := Bw18.trans (hb19.mono Zw18)
  have Zw19 := Bw19.size
  clear hb19
  clear H17
  clear H18
  go_wp2_with fail
  have hx20 := sIntersect_any _ _ (comb fOr a b) c _ _ _ H1.out Hc.out (by have := KK.out; omega) (by have := KK.out; omega)
  refine hx20.mono ?_
  rintro e w20 ⟨v20, rfl, hr20, hb20⟩
  clear hx20
  replace Ha := Lib.hid (Ha.out.step hb20 (Nat.le_refl _))
  replace Hb := Lib.hid (Hb.out.step hb20 (Nat.le_refl _))
  replace Hc := Lib.hid (Hc.out.step hb20 (Nat.le_refl _))
  replace H1 := Lib.hid (H1.out.step hb20 (Nat.le_refl _))
  replace H2 := Lib.hid (H2.out.step hb20 (Nat.le_refl _))
  have Bw20 := Bw19.trans (hb20.mono Zw19)
  have Zw20 := Bw20.size
  have H20 := Lib.hid hr20
  clear hr20
  clear hb20
  go_wp2_with fail
  have hx21 := sIntersect_any _ _ a c _ _ _ Ha.out Hc.out (by have := KK.out; omega) (by have := KK.out; omega)
  refine hx21.mono ?_
  rintro e w21 ⟨v21, rfl, hr21, hb21⟩
  clear hx21
  replace Ha := Lib.hid (Ha.out.step hb21 (Nat.le_refl _))
  replace Hb := Lib.hid (Hb.out.step hb21 (Nat.le_refl _))
  replace Hc := Lib.hid (Hc.out.step hb21 (Nat.le_refl _))
  replace H1 := Lib.hid (H1.out.step hb21 (Nat.le_refl _))
  replace H2 := Lib.hid (H2.out.step hb21 (Nat.le_refl _))
  replace H20 := Lib.hid (H20.out.step hb21 (Nat.le_refl _))
  have Bw21 := Bw20.trans (hb21.mono Zw20)
  have Zw21 := Bw21.size
  have H21 := Lib.hid hr21
  clear hr21
  clear hb21
  go_wp2_with fail
  have hx22 := sIntersect_any _ _ b c _ _ _ Hb.out Hc.out (by have := KK.out; omega) (by have := KK.out; omega)
  refine hx22.mono ?_
  rintro e w22 ⟨v22, rfl, hr22, hb22⟩
  clear hx22
  replace Ha := Lib.hid (Ha.out.step hb22 (Nat.le_refl _))
  replace Hb := Lib.hid (Hb.out.step hb22 (Nat.le_refl _))
  replace Hc := Lib.hid (Hc.out.step hb22 (Nat.le_refl _))
  replace H1 := Lib.hid (H1.out.step hb22 (Nat.le_refl _))
  replace H2 := Lib.hid (H2.out.step hb22 (Nat.le_refl _))
  replace H20 := Lib.hid (H20.out.step hb22 (Nat.le_refl _))
  replace H21 := Lib.hid (H21.out.step hb22 (Nat.le_refl _))
  have Bw22 := Bw21.trans (hb22.mono Zw21)
  have Zw22 := Bw22.size
  have H22 := Lib.hid hr22
  clear hr22
  clear hb22
  go_wp2_with fail
  have hx23 := sUnion_any _ _ (comb fAnd a c) (comb fAnd b c) _ _ _ H21.out H22.out (by have := KK.out; omega) (by have := KK.out; omega)
  refine hx23.mono ?_
  rintro e w23 ⟨v23, rfl, hr23, hb23⟩
  clear hx23
  replace Ha := Lib.hid (Ha.out.step hb23 (Nat.le_refl _))
  replace Hb := Lib.hid (Hb.out.step hb23 (Nat.le_refl _))
  replace Hc := Lib.hid (Hc.out.step hb23 (Nat.le_refl _))
  replace H1 := Lib.hid (H1.out.step hb23 (Nat.le_refl _))
  replace H2 := Lib.hid (H2.out.step hb23 (Nat.le_refl _))
  replace H20 := Lib.hid (H20.out.step hb23 (Nat.le_refl _))
  replace H21 := Lib.hid (H21.out.step hb23 (Nat.le_refl _))
  replace H22 := Lib.hid (H22.out.step hb23 (Nat.le_refl _))
  have Bw23 := Bw22.trans (hb23.mono Zw22)
  have Zw23 := Bw23.size
  have H23 := Lib.hid hr23
  clear hr23
  clear hb23
  clear H21
  clear H22
  go_wp2_with fail
  have hx24 := sameP_any v20 v23 _ _ _ _ _ H20.out H23.out
  rw [decide_eq_true (alg_dist a b c)] at hx24
  refine hx24.mono ?_
  rintro e w24 ⟨rfl, hb24⟩
  clear hx24
  replace Ha := Lib.hid (Ha.out.step hb24 (Nat.le_refl _))
  replace Hb := Lib.hid (Hb.out.step hb24 (Nat.le_refl _))
  replace Hc := Lib.hid (Hc.out.step hb24 (Nat.le_refl _))
  replace H1 := Lib.hid (H1.out.step hb24 (Nat.le_refl _))
  replace H2 := Lib.hid (H2.out.step hb24 (Nat.le_refl _))
  replace H20 := Lib.hid (H20.out.step hb24 (Nat.le_refl _))
  replace H23 := Lib.hid (H23.out.step hb24 (Nat.le_refl _))
  have Bw24 := Bw23.trans (hb24.mono Zw23)
  have Zw24 := Bw24.size
  clear hb24
  clear H20
  clear H23
  go_wp2_with fail
  have hx25 := sUnion_any _ _ (comb fOr a b) c _ _ _ H1.out Hc.out (by have := KK.out; omega) (by have := KK.out; omega)
  refine hx25.mono ?_
  rintro e w25 ⟨v25, rfl, hr25, hb25⟩
  clear hx25
  replace Ha := Lib.hid (Ha.out.step hb25 (Nat.le_refl _))
  replace Hb := Lib.hid (Hb.out.step hb25 (Nat.le_refl _))
  replace Hc := Lib.hid (Hc.out.step hb25 (Nat.le_refl _))
  replace H1 := Lib.hid (H1.out.step hb25 (Nat.le_refl _))
  replace H2 := Lib.hid (H2.out.step hb25 (Nat.le_refl _))
  have Bw25 := Bw24.trans (hb25.mono Zw24)
  have Zw25 := Bw25.size
  have H25 := Lib.hid hr25
  clear hr25
  clear hb25
  go_wp2_with fail
  have hx26 := sUnion_any _ _ b c _ _ _ Hb.out Hc.out (by have := KK.out; omega) (by have := KK.out; omega)
  refine hx26.mono ?_
  rintro e w26 ⟨v26, rfl, hr26, hb26⟩
  clear hx26
  replace Ha := Lib.hid (Ha.out.step hb26 (Nat.le_refl _))
  replace Hb := Lib.hid (Hb.out.step hb26 (Nat.le_refl _))
  replace Hc := Lib.hid (Hc.out.step hb26 (Nat.le_refl _))
  replace H1 := Lib.hid (H1.out.step hb26 (Nat.le_refl _))
  replace H2 := Lib.hid (H2.out.step hb26 (Nat.le_refl _))
  replace H25 := Lib.hid (H25.out.step hb26 (Nat.le_refl _))
  have Bw26 := Bw25.trans (hb26.mono Zw25)
  have Zw26 := Bw26.size
  have H26 := Lib.hid hr26
  clear hr26
  clear hb26
  go_wp2_with fail
  have hx27 := sUnion_any _ _ a (comb fOr b c) _ _ _ Ha.out H26.out (by have := KK.out; omega) (by have := KK.out; omega)
  refine hx27.mono ?_
  rintro e w27 ⟨v27, rfl, hr27, hb27⟩
  clear hx27
  replace Ha := Lib.hid (Ha.out.step hb27 (Nat.le_refl _))
  replace Hb := Lib.hid (Hb.out.step hb27 (Nat.le_refl _))
  replace Hc := Lib.hid (Hc.out.step hb27 (Nat.le_refl _))
  replace H1 := Lib.hid (H1.out.step hb27 (Nat.le_refl _))
  replace H2 := Lib.hid (H2.out.step hb27 (Nat.le_refl _))
  replace H25 := Lib.hid (H25.out.step hb27 (Nat.le_refl _))
  replace H26 := Lib.hid (H26.out.step hb27 (Nat.le_refl _))
  have Bw27 := Bw26.trans (hb27.mono Zw26)
  have Zw27 := Bw27.size
  have H27 := Lib.hid hr27
  clear hr27
  clear hb27
  clear H26
  go_wp2_with fail
  have hx28 := sameP_any v25 v27 _ _ _ _ _ H25.out H27.out
  rw [decide_eq_true (alg_assoc a b c)] at hx28
  refine hx28.mono ?_
  rintro e w28 ⟨rfl, hb28⟩
  clear hx28
  replace Ha := Lib.hid (Ha.out.step hb28 (Nat.le_refl _))
  replace Hb := Lib.hid (Hb.out.step hb28 (Nat.le_refl _))
  replace Hc := Lib.hid (Hc.out.step hb28 (Nat.le_refl _))
  replace H1 := Lib.hid (H1.out.step hb28 (Nat.le_refl _))
  replace H2 := Lib.hid (H2.out.step hb28 (Nat.le_refl _))
  replace H25 := Lib.hid (H25.out.step hb28 (Nat.le_refl _))
  replace H27 := Lib.hid (H27.out.step hb28 (Nat.le_refl _))
  have Bw28 := Bw27.trans (hb28.mono Zw27)
  have Zw28 := Bw28.size
  clear hb28
  clear H25
  clear H27
  go_wp2_with fail
  have hx29 := sCovers_any _ _ a (comb fAnd a b) _ _ _ Ha.out H2.out (by have := KK.out; omega) (by have := KK.out; omega)
  rw [alg_cov1 a b] at hx29
  refine hx29.mono ?_
  rintro e w29 ⟨rfl, hb29⟩
  clear hx29
  replace Ha := Lib.hid (Ha.out.step hb29 (Nat.le_refl _))
  replace Hb := Lib.hid (Hb.out.step hb29 (Nat.le_refl _))
  replace Hc := Lib.hid (Hc.out.step hb29 (Nat.le_refl _))
  replace H1 := Lib.hid (H1.out.step hb29 (Nat.le_refl _))
  replace H2 := Lib.hid (H2.out.step hb29 (Nat.le_refl _))
  have Bw29 := Bw28.trans (hb29.mono Zw28)
  have Zw29 := Bw29.size
  clear hb29
  clear H2
  go_wp2_with fail
  have hx30 := sCovers_any _ _ (comb fOr a b) a _ _ _ H1.out Ha.out (by have := KK.out; omega) (by have := KK.out; omega)
  rw [alg_cov2 a b] at hx30
  refine hx30.mono ?_
  rintro e w30 ⟨rfl, hb30⟩
  clear hx30
  replace Ha := Lib.hid (Ha.out.step hb30 (Nat.le_refl _))
  replace Hb := Lib.hid (Hb.out.step hb30 (Nat.le_refl _))
  replace Hc := Lib.hid (Hc.out.step hb30 (Nat.le_refl _))
  replace H1 := Lib.hid (H1.out.step hb30 (Nat.le_refl _))
  have Bw30 := Bw29.trans (hb30.mono Zw29)
  have Zw30 := Bw30.size
  clear hb30
  clear H1
  go_wp2_with fail
  have hx31 := awake_any w30
  refine hx31.mono ?_
  rintro e w31 ⟨rfl, hb31⟩
  clear hx31
  replace Ha := Lib.hid (Ha.out.step hb31 (Nat.le_refl _))
  replace Hb := Lib.hid (Hb.out.step hb31 (Nat.le_refl _))
  replace Hc := Lib.hid (Hc.out.step hb31 (Nat.le_refl _))
  have Bw31 := Bw30.trans (hb31.mono Zw30)
  have Zw31 := Bw31.size
  clear hb31
  go_wp2
  go_ret
  exact ⟨rfl, Bw31⟩
end Go.Proofs.Ytpbccbhhjnlcpaa
