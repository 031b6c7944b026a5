/-
  The walk of the statement ValueAlgebra. Conditions: the tables lie as the rows say.
-/
import Derived.Test.YthjnkekkjjcnfaaGreatDoorVaM
import Derived.WalkKit
import Derived.WalkSpells
import Derived.WalkLawsBesides
import Derived.Deep.QuietTactic
import Derived.BigQuiet
import Derived.Handy
import Derived.Lib.Hide
namespace Go.Proofs.YthjnkekkjjcnfaaGreatDoor
open Go.RowKit

theorem vand_assoc (a b c : Int) : vand (vand a b) c = vand a (vand b c) := by
  unfold vand
  by_cases a0 : a = 0 <;> by_cases b0 : b = 0 <;> by_cases c0 : c = 0 <;> by_cases a2 : a = 2 <;> by_cases b2 : b = 2 <;> by_cases c2 : c = 2 <;> simp [*]
theorem vor_assoc (a b c : Int) : vor (vor a b) c = vor a (vor b c) := by
  unfold vor
  by_cases a0 : a = 0 <;> by_cases b0 : b = 0 <;> by_cases c0 : c = 0 <;> by_cases a2 : a = 2 <;> by_cases b2 : b = 2 <;> by_cases c2 : c = 2 <;> simp [*]
theorem vdual (a b : Int) : vor (vnot a) (vnot b) = vnot (vand a b) := by
  unfold vor vnot vand
  by_cases a0 : a = 0 <;> by_cases b0 : b = 0 <;> by_cases a2 : a = 2 <;> by_cases b2 : b = 2 <;> simp [*]
set_option maxRecDepth 100000 in
set_option maxHeartbeats 3200000 in
theorem law_algebra (a b c : Int) (w : World) (h : Env w) :
    Calls Tryz.prog 9 #[.int .i64 a, .int .i64 b, .int .i64 c] w fun e w' => e = .returned (.bool true) ∧ Below w.heap.size w w' := by
  have i1 : vand b a = vand a b := by unfold vand; split <;> split <;> (try split) <;> (try split) <;> omega
  have i2 : vor b a = vor a b := by unfold vor; split <;> split <;> (try split) <;> (try split) <;> omega
  have i3 : vand (vand a b) c = vand a (vand b c) := vand_assoc a b c
  have i4 : vor (vor a b) c = vor a (vor b c) := vor_assoc a b c
  have i5 : vor (vnot a) (vnot b) = vnot (vand a b) := vdual a b
  have h1 := fun W => pAnd_any a b W
  have h2 := fun W => pAnd_any b a W
  rw [i1] at h2
  have h3 := fun W => pOr_any a b W
  have h4 := fun W => pOr_any b a W
  rw [i2] at h4
  have h5 := fun W => pAnd_any b c W
  have h6 := fun W => pAnd_any a (vand b c) W
  have h7 := fun W => pAnd_any (vand a b) c W
  rw [i3] at h7
  have h8 := fun W => pOr_any b c W
  have h9 := fun W => pOr_any a (vor b c) W
  have h10 := fun W => pOr_any (vor a b) c W
  rw [i4] at h10
  have h11 := fun W => pNot_any (vand a b) W
  have h12 := fun W => pNot_any a W
  have h13 := fun W => pNot_any b W
  have h14 := fun W => pOr_any (vnot a) (vnot b) W
  rw [i5] at h14
  clear i1 i2 i3 i4 i5
  generalize vnot (vand a b) = x1 at *
  generalize vand a (vand b c) = x2 at *
  generalize vor a (vor b c) = x3 at *
  generalize vand a b = x4 at *
  generalize vor a b = x5 at *
  generalize vand b c = x6 at *
  generalize vor b c = x7 at *
  generalize vnot a = x8 at *
  generalize vnot b = x9 at *
  have b0 := Below.refl w.heap.size w
  go_enter Tryz.func9, Tryz.ntmps9
  go_wp2_with fail
  refine (h1 _).mono ?_
  rintro e w1 ⟨rfl, hb1⟩
  have b1 := b0.trans (hb1.mono b0.size)
  go_wp2_with fail
  refine (h2 _).mono ?_
  rintro e w2 ⟨rfl, hb2⟩
  have b2 := b1.trans (hb2.mono b1.size)
  go_wp2_with fail
  refine (h3 _).mono ?_
  rintro e w3 ⟨rfl, hb3⟩
  have b3 := b2.trans (hb3.mono b2.size)
  go_wp2_with fail
  refine (h4 _).mono ?_
  rintro e w4 ⟨rfl, hb4⟩
  have b4 := b3.trans (hb4.mono b3.size)
  go_wp2_with fail
  refine (h5 _).mono ?_
  rintro e w5 ⟨rfl, hb5⟩
  have b5 := b4.trans (hb5.mono b4.size)
  go_wp2_with fail
  refine (h6 _).mono ?_
  rintro e w6 ⟨rfl, hb6⟩
  have b6 := b5.trans (hb6.mono b5.size)
  go_wp2_with fail
  refine (h1 _).mono ?_
  rintro e w7 ⟨rfl, hb7⟩
  have b7 := b6.trans (hb7.mono b6.size)
  go_wp2_with fail
  refine (h7 _).mono ?_
  rintro e w8 ⟨rfl, hb8⟩
  have b8 := b7.trans (hb8.mono b7.size)
  go_wp2_with fail
  refine (h8 _).mono ?_
  rintro e w9 ⟨rfl, hb9⟩
  have b9 := b8.trans (hb9.mono b8.size)
  go_wp2_with fail
  refine (h9 _).mono ?_
  rintro e w10 ⟨rfl, hb10⟩
  have b10 := b9.trans (hb10.mono b9.size)
  go_wp2_with fail
  refine (h3 _).mono ?_
  rintro e w11 ⟨rfl, hb11⟩
  have b11 := b10.trans (hb11.mono b10.size)
  go_wp2_with fail
  refine (h10 _).mono ?_
  rintro e w12 ⟨rfl, hb12⟩
  have b12 := b11.trans (hb12.mono b11.size)
  go_wp2_with fail
  refine (h1 _).mono ?_
  rintro e w13 ⟨rfl, hb13⟩
  have b13 := b12.trans (hb13.mono b12.size)
  go_wp2_with fail
  refine (h11 _).mono ?_
  rintro e w14 ⟨rfl, hb14⟩
  have b14 := b13.trans (hb14.mono b13.size)
  go_wp2_with fail
  refine (h12 _).mono ?_
  rintro e w15 ⟨rfl, hb15⟩
  have b15 := b14.trans (hb15.mono b14.size)
  go_wp2_with fail
  refine (h13 _).mono ?_
  rintro e w16 ⟨rfl, hb16⟩
  have b16 := b15.trans (hb16.mono b15.size)
  go_wp2_with fail
  refine (h14 _).mono ?_
  rintro e w17 ⟨rfl, hb17⟩
  have b17 := b16.trans (hb17.mono b16.size)
  have E17 := h.step b17
  go_wp2_with fail
  refine (awake_any _ E17).mono ?_
  rintro e w18 ⟨rfl, hb18⟩
  have b18 := b17.trans (hb18.mono b17.size)
  go_wp2
  go_ret
  exact ⟨rfl, b18⟩
end Go.Proofs.YthjnkekkjjcnfaaGreatDoor
