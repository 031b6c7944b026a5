/-
  The walk of the statement SpanLengths. Conditions: the lists are read anywhere below the heap's end.
-/
import Derived.Test.YtpbccbhhjnlcpaaAwkS
import Derived.Test.YtpbccbhhjnlcpaaValS
import Derived.IntWalk
import Derived.WalkKit
import Derived.WalkSpells
import Derived.WalkLawsBesides
import Derived.Deep.QuietTactic
import Derived.BigQuiet
import Derived.Handy
import Derived.Lib.Hide
namespace Go.Proofs.Ytpbccbhhjnlcpaa
open Go.RowKit

set_option maxRecDepth 100000 in
set_option maxHeartbeats 6400000 in
theorem law_lengths (va vb : Value) (a b : List (Int × Int)) (w : World) (La Lb : Nat) (hva : RdP w La w.heap.size va a) (hvb : RdP w Lb w.heap.size vb b) :
    Calls Try.prog 8 #[va, vb] w fun e w' => e = .returned (.bool true) ∧ Below w.heap.size w w' := by
  have Ha := Lib.hid hva
  obtain ⟨Aa, ca, rfl, _, _⟩ := hva
  have Hb := Lib.hid hvb
  obtain ⟨Ab, cb, rfl, _, _⟩ := hvb
  by_cases hbiga : (a.length : Int) > 30
  · have hbda : decide ((a.length : Int) > 30) = true := by simp; omega
    go_enter Try.func8, Try.ntmps8
    go_wp2_with fail
    refine (awake_any _).mono ?_
    rintro e w1 ⟨rfl, hb1⟩
    go_wp2
    go_ret
    exact ⟨rfl, hb1⟩
  have hla : a.length ≤ 30 := by omega
  have hbda : decide ((a.length : Int) > 30) = false := by simp; omega
  by_cases hbigb : (b.length : Int) > 30
  · have hbdb : decide ((b.length : Int) > 30) = true := by simp; omega
    go_enter Try.func8, Try.ntmps8
    go_wp2_with fail
    refine (awake_any _).mono ?_
    rintro e w1 ⟨rfl, hb1⟩
    go_wp2
    go_ret
    exact ⟨rfl, hb1⟩
  have hlb : b.length ≤ 30 := by omega
  have hbdb : decide ((b.length : Int) > 30) = false := by simp; omega
  go_enter Try.func8, Try.ntmps8
  have q1 := lenL_bd a
  have q2 := lenL_bd b
  have q3 := lenL_bd (comb fOr a b)
  have q4 := lenL_bd (comb fAnd a b)
  have q5 := lenL_bd (comb fSub a b)
  have q6 := lenL_add a b
  have q7 := lenL_sub a b
  have c1 := comb_len fOr a b
  have c2 := comb_len fAnd a b
  have c3 := comb_len fSub a b
  have hof : Hid ((lenL a == 0) = decide ((ofL a).length = 0)) := Lib.hid (by
    by_cases h : lenL a = 0
    · rw [h]; have := q1.2.2.1 h; rw [this]; rfl
    · have h2 : ¬ (ofL a).length = 0 := fun h3 => h (q1.2.2.2 (List.eq_nil_of_length_eq_zero h3))
      rw [decide_eq_false h2, beq_eq_false_iff_ne]; exact h)
  have c4 := ofL_len a
  go_wp2_with fail
  have hx1 := sLen_any _ a _ _ Ha.out (by omega)
  refine hx1.mono ?_
  rintro e w1 ⟨rfl, hb1⟩
  clear hx1
  replace Ha := Lib.hid (Ha.out.step hb1 (Nat.le_refl _))
  replace Hb := Lib.hid (Hb.out.step hb1 (Nat.le_refl _))
  have Bw1 := hb1
  have Zw1 := Bw1.size
  clear hb1
  have Q := Lib.hid (And.intro q1 (And.intro q2 (And.intro q3 (And.intro q4 (And.intro q5 (And.intro q6 q7))))))
  have d1 : (0 : Int) ≤ lenL a := by omega
  have d2 : lenL a ≤ 1099511627776 := by omega
  clear q1 q2 q3 q4 q5 q6 q7
  go_wp2_with fail
  have hx2 := sUnion_any _ _ a b _ _ _ Ha.out Hb.out (by omega) (by omega)
  refine hx2.mono ?_
  rintro e w2 ⟨v2, rfl, hr2, hb2⟩
  clear hx2
  replace Ha := Lib.hid (Ha.out.step hb2 (Nat.le_refl _))
  replace Hb := Lib.hid (Hb.out.step hb2 (Nat.le_refl _))
  have Bw2 := Bw1.trans (hb2.mono Zw1)
  have Zw2 := Bw2.size
  have H2 := Lib.hid hr2
  clear hr2
  clear hb2
  go_wp2_with fail
  have hx3 := sLen_any v2 _ _ _ H2.out (by omega)
  refine hx3.mono ?_
  rintro e w3 ⟨rfl, hb3⟩
  clear hx3
  replace Ha := Lib.hid (Ha.out.step hb3 (Nat.le_refl _))
  replace Hb := Lib.hid (Hb.out.step hb3 (Nat.le_refl _))
  replace H2 := Lib.hid (H2.out.step hb3 (Nat.le_refl _))
  have Bw3 := Bw2.trans (hb3.mono Zw2)
  have Zw3 := Bw3.size
  clear hb3
  clear H2
  go_wp2_with fail
  have hx4 := sIntersect_any _ _ a b _ _ _ Ha.out Hb.out (by omega) (by omega)
  refine hx4.mono ?_
  rintro e w4 ⟨v4, rfl, hr4, hb4⟩
  clear hx4
  replace Ha := Lib.hid (Ha.out.step hb4 (Nat.le_refl _))
  replace Hb := Lib.hid (Hb.out.step hb4 (Nat.le_refl _))
  have Bw4 := Bw3.trans (hb4.mono Zw3)
  have Zw4 := Bw4.size
  have H4 := Lib.hid hr4
  clear hr4
  clear hb4
  go_wp2_with fail
  have hx5 := sLen_any v4 _ _ _ H4.out (by omega)
  refine hx5.mono ?_
  rintro e w5 ⟨rfl, hb5⟩
  clear hx5
  replace Ha := Lib.hid (Ha.out.step hb5 (Nat.le_refl _))
  replace Hb := Lib.hid (Hb.out.step hb5 (Nat.le_refl _))
  replace H4 := Lib.hid (H4.out.step hb5 (Nat.le_refl _))
  have Bw5 := Bw4.trans (hb5.mono Zw4)
  have Zw5 := Bw5.size
  clear hb5
  clear H4
  have w1' : IntKind.i64.wrap (lenL (comb fOr a b) + lenL (comb fAnd a b)) = lenL a + lenL b := by have := Q.out; rw [this.2.2.2.2.2.1]; exact IntWalk.i64_in _ (by omega)
  have w2' : IntKind.i64.wrap (lenL a + lenL b) = lenL a + lenL b := IntWalk.i64_in _ (by have := Q.out; omega)
  have w6' : wrap64 (lenL (comb fOr a b) + lenL (comb fAnd a b)) = lenL a + lenL b := by (have := Q.out; unfold wrap64; omega)
  have w3' : (lenL a + lenL b == lenL a + lenL b) = true := by simp
  go_wp2_with fail
  have hx6 := sLen_any _ b _ _ Hb.out (by omega)
  refine hx6.mono ?_
  rintro e w6 ⟨rfl, hb6⟩
  clear hx6
  replace Ha := Lib.hid (Ha.out.step hb6 (Nat.le_refl _))
  replace Hb := Lib.hid (Hb.out.step hb6 (Nat.le_refl _))
  have Bw6 := Bw5.trans (hb6.mono Zw5)
  have Zw6 := Bw6.size
  clear hb6
  have w4' : IntKind.i64.wrap (lenL a - lenL (comb fAnd a b)) = lenL a - lenL (comb fAnd a b) := IntWalk.i64_in _ (by have := Q.out; omega)
  have w5' : (lenL a - lenL (comb fAnd a b) == lenL a - lenL (comb fAnd a b)) = true := by simp
  go_wp2_with fail
  have hx7 := sSubtract_any _ _ a b _ _ _ Ha.out Hb.out (by omega) (by omega)
  refine hx7.mono ?_
  rintro e w7 ⟨v7, rfl, hr7, hb7⟩
  clear hx7
  replace Ha := Lib.hid (Ha.out.step hb7 (Nat.le_refl _))
  replace Hb := Lib.hid (Hb.out.step hb7 (Nat.le_refl _))
  have Bw7 := Bw6.trans (hb7.mono Zw6)
  have Zw7 := Bw7.size
  have H7 := Lib.hid hr7
  clear hr7
  clear hb7
  go_wp2_with fail
  have hx8 := sLen_any v7 _ _ _ H7.out (by omega)
  rw [lenL_sub] at hx8
  refine hx8.mono ?_
  rintro e w8 ⟨rfl, hb8⟩
  clear hx8
  replace Ha := Lib.hid (Ha.out.step hb8 (Nat.le_refl _))
  replace Hb := Lib.hid (Hb.out.step hb8 (Nat.le_refl _))
  replace H7 := Lib.hid (H7.out.step hb8 (Nat.le_refl _))
  have Bw8 := Bw7.trans (hb8.mono Zw7)
  have Zw8 := Bw8.size
  clear hb8
  clear H7
  go_wp2_with fail
  have hx9 := sIntersect_any _ _ a b _ _ _ Ha.out Hb.out (by omega) (by omega)
  refine hx9.mono ?_
  rintro e w9 ⟨v9, rfl, hr9, hb9⟩
  clear hx9
  replace Ha := Lib.hid (Ha.out.step hb9 (Nat.le_refl _))
  replace Hb := Lib.hid (Hb.out.step hb9 (Nat.le_refl _))
  have Bw9 := Bw8.trans (hb9.mono Zw8)
  have Zw9 := Bw9.size
  have H9 := Lib.hid hr9
  clear hr9
  clear hb9
  go_wp2_with fail
  have hx10 := sLen_any v9 _ _ _ H9.out (by omega)
  refine hx10.mono ?_
  rintro e w10 ⟨rfl, hb10⟩
  clear hx10
  replace Ha := Lib.hid (Ha.out.step hb10 (Nat.le_refl _))
  replace Hb := Lib.hid (Hb.out.step hb10 (Nat.le_refl _))
  replace H9 := Lib.hid (H9.out.step hb10 (Nat.le_refl _))
  have Bw10 := Bw9.trans (hb10.mono Zw9)
  have Zw10 := Bw10.size
  clear hb10
  clear H9
  go_wp2_with fail
  have hx11 := sOf_any _ a _ _ Ha.out (by omega)
  refine hx11.mono ?_
  rintro e w11 ⟨v11, rfl, hr11, hb11⟩
  clear hx11
  replace Ha := Lib.hid (Ha.out.step hb11 (Nat.le_refl _))
  replace Hb := Lib.hid (Hb.out.step hb11 (Nat.le_refl _))
  have Bw11 := Bw10.trans (hb11.mono Zw10)
  have Zw11 := Bw11.size
  have H11 := Lib.hid hr11
  clear hr11
  clear hb11
  obtain ⟨AO, cO, rfl, _, _⟩ := H11.out
  by_cases h0 : (ofL a).length = 0
  · have g1 : (((ofL a).length : Int) == 0) = true := by rw [beq_iff_eq]; omega
    have g2 : (lenL a == 0) = true := by rw [hof.out, decide_eq_true h0]
    have HZ := Lib.hid h0
    clear h0
    go_wp2_with fail
    have hx12 := awake_any w11
    refine hx12.mono ?_
    rintro e w12 ⟨rfl, hb12⟩
    clear hx12
    replace Ha := Lib.hid (Ha.out.step hb12 (Nat.le_refl _))
    replace Hb := Lib.hid (Hb.out.step hb12 (Nat.le_refl _))
    replace H11 := Lib.hid (H11.out.step hb12 (Nat.le_refl _))
    have Bw12 := Bw11.trans (hb12.mono Zw11)
    have Zw12 := Bw12.size
    clear hb12
    go_wp2
    go_ret
    exact ⟨rfl, Bw12⟩
  · have g1 : (((ofL a).length : Int) == 0) = false := by rw [beq_eq_false_iff_ne]; omega
    have g2 : (lenL a == 0) = false := by rw [hof.out, decide_eq_false h0]
    go_wp2_with fail
    have hx13 := awake_any w11
    refine hx13.mono ?_
    rintro e w13 ⟨rfl, hb13⟩
    clear hx13
    replace Ha := Lib.hid (Ha.out.step hb13 (Nat.le_refl _))
    replace Hb := Lib.hid (Hb.out.step hb13 (Nat.le_refl _))
    replace H11 := Lib.hid (H11.out.step hb13 (Nat.le_refl _))
    have Bw13 := Bw11.trans (hb13.mono Zw11)
    have Zw13 := Bw13.size
    clear hb13
    go_wp2
    go_ret
    exact ⟨rfl, Bw13⟩
end Go.Proofs.Ytpbccbhhjnlcpaa
