import Derived.Test.YtnbeopkpkagjmaaGreatRAw
import Derived.Test.YtnbeopkpkagjmaaGreatRRc
import Derived.Test.YtnbeopkpkagjmaaGreatRFo
import Derived.Test.YtnbeopkpkagjmaaGreatRTw
import Derived.Test.YtnbeopkpkagjmaaGreatSA
import Derived.WalkKit
import Derived.WalkSpells
import Derived.WalkLawsBesides
import Derived.Deep.QuietTactic
import Derived.BigQuiet
import Derived.Handy
import Derived.Lib.Hide
/-
  The walk of the statement RegionCombines. Conditions: none. (Written by mkRgW.py.)
-/
namespace Go.Proofs.YtnbeopkpkagjmaaGreat
set_option maxRecDepth 100000
set_option linter.unusedVariables false
set_option linter.unusedSimpArgs false
open Go.RowKit

set_option maxRecDepth 100000 in
set_option maxHeartbeats 6400000 in
theorem law_combines (va vb : Value) (a b : List Rc) (w : World) (La Lb : Nat) (hva : RdR w La w.heap.size va a) (hvb : RdR w Lb w.heap.size vb b) :
    Calls Tryz.prog 5 #[va, vb] w fun e w' => e = .returned (.bool true) ∧ Below w.heap.size w w' := by
  have Ha := Lib.hid hva
  obtain ⟨Aa, ca, rfl, _, _⟩ := hva
  have Hb := Lib.hid hvb
  obtain ⟨Ab, cb, rfl, _, _⟩ := hvb
  by_cases hbiga : (a.length : Int) > 12
  · have hbda : decide ((a.length : Int) > 12) = true := by simp; omega
    go_enter Tryz.func5, Tryz.ntmps5
    go_wp2_with fail
    refine (awake_any _).mono ?_
    rintro e w1 ⟨rfl, hb1⟩
    go_wp2
    go_ret
    exact ⟨rfl, hb1⟩
  have hla : a.length ≤ 12 := by omega
  have hbda : decide ((a.length : Int) > 12) = false := by simp; omega
  by_cases hbigb : (b.length : Int) > 12
  · have hbdb : decide ((b.length : Int) > 12) = true := by simp; omega
    go_enter Tryz.func5, Tryz.ntmps5
    go_wp2_with fail
    refine (awake_any _).mono ?_
    rintro e w1 ⟨rfl, hb1⟩
    go_wp2
    go_ret
    exact ⟨rfl, hb1⟩
  have hlb : b.length ≤ 12 := by omega
  have hbdb : decide ((b.length : Int) > 12) = false := by simp; omega
  go_enter Tryz.func5, Tryz.ntmps5
  have m1 := cmb12 fOr hla hlb
  have m2 := cmb12 fAnd hla hlb
  have m3 := cmb12 fSub hla hlb
  go_wp2_with fail
  have hx1 := qUnion_any _ _ a b _ _ _ Ha.out Hb.out (by omega)
  with_reducible refine hx1.mono ?_
  rintro e w1 ⟨v1, rfl, hr1, hb1⟩
  clear hx1
  replace Ha := Lib.hid (Ha.out.step hb1 (Nat.le_refl _))
  replace Hb := Lib.hid (Hb.out.step hb1 (Nat.le_refl _))
  have Bw1 := hb1
  have Zw1 := Bw1.size
  have H1 := Lib.hid hr1
  obtain ⟨A1, c1, rfl, _, _⟩ := hr1
  clear hb1
  go_wp2_with fail
  have hx2 := rUnionR_any _ _ a b _ _ _ Ha.out Hb.out (by omega) (by omega) (by omega)
  with_reducible refine hx2.mono ?_
  rintro e w2 ⟨v2, rfl, hr2, hb2⟩
  clear hx2
  replace Ha := Lib.hid (Ha.out.step hb2 (Nat.le_refl _))
  replace Hb := Lib.hid (Hb.out.step hb2 (Nat.le_refl _))
  replace H1 := Lib.hid (H1.out.step hb2 (Nat.le_refl _))
  have Bw2 := Bw1.trans (hb2.mono Zw1)
  have Zw2 := Bw2.size
  have H2 := Lib.hid hr2
  obtain ⟨A2, c2, rfl, _, _⟩ := hr2
  clear hb2
  go_wp2_with fail
  have hx3 := sameR_any _ _ _ _ _ _ _ H1.out H2.out
  rw [decide_eq_true rfl] at hx3
  with_reducible refine hx3.mono ?_
  rintro e w3 ⟨rfl, hb3⟩
  clear hx3
  replace Ha := Lib.hid (Ha.out.step hb3 (Nat.le_refl _))
  replace Hb := Lib.hid (Hb.out.step hb3 (Nat.le_refl _))
  replace H1 := Lib.hid (H1.out.step hb3 (Nat.le_refl _))
  replace H2 := Lib.hid (H2.out.step hb3 (Nat.le_refl _))
  have Bw3 := Bw2.trans (hb3.mono Zw2)
  have Zw3 := Bw3.size
  clear hb3
  clear H1
  clear H2
  go_wp2_with fail
  have hx4 := qInter_any _ _ a b _ _ _ Ha.out Hb.out (by omega)
  with_reducible refine hx4.mono ?_
  rintro e w4 ⟨v4, rfl, hr4, hb4⟩
  clear hx4
  replace Ha := Lib.hid (Ha.out.step hb4 (Nat.le_refl _))
  replace Hb := Lib.hid (Hb.out.step hb4 (Nat.le_refl _))
  have Bw4 := Bw3.trans (hb4.mono Zw3)
  have Zw4 := Bw4.size
  have H4 := Lib.hid hr4
  obtain ⟨A4, c4, rfl, _, _⟩ := hr4
  clear hb4
  go_wp2_with fail
  have hx5 := rInterR_any _ _ a b _ _ _ Ha.out Hb.out (by omega) (by omega) (by omega)
  with_reducible refine hx5.mono ?_
  rintro e w5 ⟨v5, rfl, hr5, hb5⟩
  clear hx5
  replace Ha := Lib.hid (Ha.out.step hb5 (Nat.le_refl _))
  replace Hb := Lib.hid (Hb.out.step hb5 (Nat.le_refl _))
  replace H4 := Lib.hid (H4.out.step hb5 (Nat.le_refl _))
  have Bw5 := Bw4.trans (hb5.mono Zw4)
  have Zw5 := Bw5.size
  have H5 := Lib.hid hr5
  obtain ⟨A5, c5, rfl, _, _⟩ := hr5
  clear hb5
  go_wp2_with fail
  have hx6 := sameR_any _ _ _ _ _ _ _ H4.out H5.out
  rw [decide_eq_true rfl] at hx6
  with_reducible refine hx6.mono ?_
  rintro e w6 ⟨rfl, hb6⟩
  clear hx6
  replace Ha := Lib.hid (Ha.out.step hb6 (Nat.le_refl _))
  replace Hb := Lib.hid (Hb.out.step hb6 (Nat.le_refl _))
  replace H4 := Lib.hid (H4.out.step hb6 (Nat.le_refl _))
  replace H5 := Lib.hid (H5.out.step hb6 (Nat.le_refl _))
  have Bw6 := Bw5.trans (hb6.mono Zw5)
  have Zw6 := Bw6.size
  clear hb6
  clear H4
  clear H5
  go_wp2_with fail
  have hx7 := qSub_any _ _ a b _ _ _ Ha.out Hb.out (by omega)
  with_reducible refine hx7.mono ?_
  rintro e w7 ⟨v7, rfl, hr7, hb7⟩
  clear hx7
  replace Ha := Lib.hid (Ha.out.step hb7 (Nat.le_refl _))
  replace Hb := Lib.hid (Hb.out.step hb7 (Nat.le_refl _))
  have Bw7 := Bw6.trans (hb7.mono Zw6)
  have Zw7 := Bw7.size
  have H7 := Lib.hid hr7
  obtain ⟨A7, c7, rfl, _, _⟩ := hr7
  clear hb7
  go_wp2_with fail
  have hx8 := rSubR_any _ _ a b _ _ _ Ha.out Hb.out (by omega) (by omega) (by omega)
  with_reducible refine hx8.mono ?_
  rintro e w8 ⟨v8, rfl, hr8, hb8⟩
  clear hx8
  replace Ha := Lib.hid (Ha.out.step hb8 (Nat.le_refl _))
  replace Hb := Lib.hid (Hb.out.step hb8 (Nat.le_refl _))
  replace H7 := Lib.hid (H7.out.step hb8 (Nat.le_refl _))
  have Bw8 := Bw7.trans (hb8.mono Zw7)
  have Zw8 := Bw8.size
  have H8 := Lib.hid hr8
  obtain ⟨A8, c8, rfl, _, _⟩ := hr8
  clear hb8
  go_wp2_with fail
  have hx9 := sameR_any _ _ _ _ _ _ _ H7.out H8.out
  rw [decide_eq_true rfl] at hx9
  with_reducible refine hx9.mono ?_
  rintro e w9 ⟨rfl, hb9⟩
  clear hx9
  replace Ha := Lib.hid (Ha.out.step hb9 (Nat.le_refl _))
  replace Hb := Lib.hid (Hb.out.step hb9 (Nat.le_refl _))
  replace H7 := Lib.hid (H7.out.step hb9 (Nat.le_refl _))
  replace H8 := Lib.hid (H8.out.step hb9 (Nat.le_refl _))
  have Bw9 := Bw8.trans (hb9.mono Zw8)
  have Zw9 := Bw9.size
  clear hb9
  clear H7
  clear H8
  go_wp2_with fail
  have hx10 := awake_any w9
  with_reducible refine hx10.mono ?_
  rintro e w10 ⟨rfl, hb10⟩
  clear hx10
  replace Ha := Lib.hid (Ha.out.step hb10 (Nat.le_refl _))
  replace Hb := Lib.hid (Hb.out.step hb10 (Nat.le_refl _))
  have Bw10 := Bw9.trans (hb10.mono Zw9)
  have Zw10 := Bw10.size
  clear hb10
  go_wp2
  go_ret
  exact ⟨rfl, Bw10⟩
end Go.Proofs.YtnbeopkpkagjmaaGreat
