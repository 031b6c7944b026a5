/-
  The walk of the statement AllenInverse: Inverse is as defined and its own inverse. Conditions: the table of keywords reads as the program lays it (Env).
-/
import Derived.Test.YthiefmphkgopcaaDoorAwkA
import Derived.WalkKit
import Derived.WalkSpells
import Derived.WalkLawsBesides
import Derived.Deep.QuietTactic
import Derived.BigQuiet
import Derived.Handy
import Derived.Lib.Hide
namespace Go.Proofs.YthiefmphkgopcaaDoor
open Go.RowKit

theorem rinv_b (r : Int) (w : World) : Calls Tryd.prog 16 #[.int .i64 r] w fun e w' => e = .returned (.int .i64 (invR r)) ∧ Below w.heap.size w w' := by
  refine (rinv_any r w).mono ?_
  rintro e w' ⟨rfl, h⟩
  subst h
  exact ⟨rfl, Below.refl _ _⟩
theorem inv_b (r : Int) (w : World) : Calls Tryd.prog 14 #[.int .i64 r] w fun e w' => e = .returned (.int .i64 (invR r)) ∧ Below w.heap.size w w' := by
  refine (inv_any r w).mono ?_
  rintro e w' ⟨rfl, h⟩
  subst h
  exact ⟨rfl, Below.refl _ _⟩
theorem invR_back (r : Int) (h : ¬ invR r < 0) : invR (invR r) = r := by
  unfold invR at *
  cases hr : isRel r
  · rw [hr] at h; simp at h
  · obtain ⟨h1, h2⟩ := (isRel_iff r).1 hr
    rw [if_pos rfl, if_pos ((isRel_iff _).2 (by omega))]
    omega

set_option maxRecDepth 100000 in
set_option maxHeartbeats 1600000 in
theorem law_inverse (r : Int) (w : World) (henv : Env w) :
    Calls Tryd.prog 4 #[.int .i64 r] w fun e w' => e = .returned (.bool true) ∧ Below w.heap.size w w' := by
  have hq : (invR r == invR r) = true := by simp
  by_cases hneg : invR r < 0
  · go_enter Tryd.func4, Tryd.ntmps4
    go_wp2_with fail
    refine (inv_b _ _).mono ?_
    rintro e w1 ⟨rfl, hb1⟩
    go_wp2_with (first | (go_at_call 16; refine (rinv_b _ _).mono ?_; rintro e w2 ⟨rfl, hb2⟩; have q2 := hb1.trans (hb2.mono hb1.size)) | (go_at_call 15; refine (awake_any _ (henv.step q2)).mono ?_; rintro e w3 ⟨rfl, hb3⟩))
    go_ret
    exact ⟨rfl, q2.trans (hb3.mono q2.size)⟩
  · have hback := Lib.hid (invR_back r hneg)
    have hr : (r == r) = true := by simp
    go_enter Tryd.func4, Tryd.ntmps4
    go_wp2_with fail
    refine (inv_b _ _).mono ?_
    rintro e w1 ⟨rfl, hb1⟩
    go_wp2_with fail
    refine (rinv_b _ _).mono ?_
    rintro e w2 ⟨rfl, hb2⟩
    have q2 := hb1.trans (hb2.mono hb1.size)
    go_wp2_with (first | (go_at_call 14; refine (inv_b _ _).mono ?_; rintro e w3 ⟨rfl, hb3⟩; rw [hback.out]; have q3 := q2.trans (hb3.mono q2.size)) | (go_at_call 15; refine (awake_any _ (henv.step q3)).mono ?_; rintro e w4 ⟨rfl, hb4⟩))
    go_ret
    exact ⟨rfl, q3.trans (hb4.mono q3.size)⟩
end Go.Proofs.YthiefmphkgopcaaDoor
