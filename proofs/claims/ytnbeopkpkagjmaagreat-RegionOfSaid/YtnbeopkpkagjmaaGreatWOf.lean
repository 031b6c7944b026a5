import Derived.Test.YtnbeopkpkagjmaaGreatRAw
import Derived.Test.YtnbeopkpkagjmaaGreatRRc
import Derived.Test.YtnbeopkpkagjmaaGreatRFo
import Derived.Test.YtnbeopkpkagjmaaGreatRTw
import Derived.Test.YtnbeopkpkagjmaaGreatSA
import Derived.WalkKit
import Derived.WalkSpells
import Derived.WalkLawsBesides
import Derived.Deep.QuietTactic
import Derived.BigQuiet
import Derived.Handy
import Derived.Lib.Hide
/-
  The walk of the statement RegionOf. Conditions: none. (Written by mkRgW.py.)
-/
namespace Go.Proofs.YtnbeopkpkagjmaaGreat
set_option maxRecDepth 100000
set_option linter.unusedVariables false
set_option linter.unusedSimpArgs false
open Go.RowKit

set_option maxRecDepth 100000 in
set_option maxHeartbeats 6400000 in
theorem law_of (va : Value) (a : List Rc) (w : World) (La : Nat) (hva : RdR w La w.heap.size va a) :
    Calls Tryz.prog 4 #[va] w fun e w' => e = .returned (.bool true) ∧ Below w.heap.size w w' := by
  have Ha := Lib.hid hva
  obtain ⟨Aa, ca, rfl, _, _⟩ := hva
  by_cases hbiga : (a.length : Int) > 12
  · have hbda : decide ((a.length : Int) > 12) = true := by simp; omega
    go_enter Tryz.func4, Tryz.ntmps4
    go_wp2_with fail
    refine (awake_any _).mono ?_
    rintro e w1 ⟨rfl, hb1⟩
    go_wp2
    go_ret
    exact ⟨rfl, hb1⟩
  have hla : a.length ≤ 12 := by omega
  have hbda : decide ((a.length : Int) > 12) = false := by simp; omega
  go_enter Tryz.func4, Tryz.ntmps4
  have m1 := ofR_len12 hla
  have hva : rgV (ofR a) = true := rgV_cmb rfl a []
  go_wp2_with fail
  have hx1 := qOf_any _ a _ _ Ha.out (by omega)
  with_reducible refine hx1.mono ?_
  rintro e w1 ⟨v1, rfl, hr1, hb1⟩
  clear hx1
  replace Ha := Lib.hid (Ha.out.step hb1 (Nat.le_refl _))
  have Bw1 := hb1
  have Zw1 := Bw1.size
  have H1 := Lib.hid hr1
  obtain ⟨A1, c1, rfl, _, _⟩ := hr1
  clear hb1
  go_wp2_with fail
  have hx2 := rOfR_any _ a _ _ Ha.out (by omega) (by omega)
  with_reducible refine hx2.mono ?_
  rintro e w2 ⟨v2, rfl, hr2, hb2⟩
  clear hx2
  replace Ha := Lib.hid (Ha.out.step hb2 (Nat.le_refl _))
  replace H1 := Lib.hid (H1.out.step hb2 (Nat.le_refl _))
  have Bw2 := Bw1.trans (hb2.mono Zw1)
  have Zw2 := Bw2.size
  have H2 := Lib.hid hr2
  obtain ⟨A2, c2, rfl, _, _⟩ := hr2
  clear hb2
  go_wp2_with fail
  have hx3 := sameR_any _ _ _ _ _ _ _ H1.out H2.out
  rw [decide_eq_true rfl] at hx3
  with_reducible refine hx3.mono ?_
  rintro e w3 ⟨rfl, hb3⟩
  clear hx3
  replace Ha := Lib.hid (Ha.out.step hb3 (Nat.le_refl _))
  replace H1 := Lib.hid (H1.out.step hb3 (Nat.le_refl _))
  replace H2 := Lib.hid (H2.out.step hb3 (Nat.le_refl _))
  have Bw3 := Bw2.trans (hb3.mono Zw2)
  have Zw3 := Bw3.size
  clear hb3
  clear H2
  go_wp2_with fail
  have hx4 := pValid_any _ _ _ _ H1.out (by omega)
  rw [hva] at hx4
  with_reducible refine hx4.mono ?_
  rintro e w4 ⟨rfl, hb4⟩
  clear hx4
  replace Ha := Lib.hid (Ha.out.step hb4 (Nat.le_refl _))
  replace H1 := Lib.hid (H1.out.step hb4 (Nat.le_refl _))
  have Bw4 := Bw3.trans (hb4.mono Zw3)
  have Zw4 := Bw4.size
  clear hb4
  clear H1
  go_wp2_with fail
  have hx5 := awake_any w4
  with_reducible refine hx5.mono ?_
  rintro e w5 ⟨rfl, hb5⟩
  clear hx5
  replace Ha := Lib.hid (Ha.out.step hb5 (Nat.le_refl _))
  have Bw5 := Bw4.trans (hb5.mono Zw4)
  have Zw5 := Bw5.size
  clear hb5
  go_wp2
  go_ret
  exact ⟨rfl, Bw5⟩
end Go.Proofs.YtnbeopkpkagjmaaGreat
