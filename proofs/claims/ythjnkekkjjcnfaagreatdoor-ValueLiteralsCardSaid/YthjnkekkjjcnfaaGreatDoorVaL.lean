/-
  Values: the examples that every statement asks besides: awake answers true. Conditions: the tables lie as the rows say.
-/
import Derived.Test.YthjnkekkjjcnfaaGreatDoorVaJ
import Derived.Test.YthjnkekkjjcnfaaGreatDoorVaK
import Derived.WalkKit
import Derived.WalkSpells
import Derived.WalkLawsBesides
import Derived.Deep.QuietTactic
import Derived.BigQuiet
import Derived.Handy
import Derived.Lib.Hide
namespace Go.Proofs.YthjnkekkjjcnfaaGreatDoor
open Go.RowKit

set_option maxRecDepth 100000 in
set_option maxHeartbeats 3200000 in
theorem awake_any (w : World) (h : Env w) :
    Calls Tryz.prog 20 #[] w fun e w' => e = .returned (.bool true) ∧ Below w.heap.size w w' := by
  have p1 : ∀ W, Env W → Calls Tryz.prog 37 #[.string ⟨#[45, 48]⟩] W fun e w' => e = .returned (.tuple #[.agg #[.int .i64 0, .int .i64 0, .string ⟨#[]⟩], .int .i64 1]) ∧ Below W.heap.size W w' := fun W hE => by
    have := pParse_any ⟨#[45, 48]⟩ W hE (by decide)
    rw [show parP (ByteArray.mk #[45, 48]).data.toList = (0, 0, [], 1) by decide +kernel] at this
    exact this
  have p2 : ∀ W, Env W → Calls Tryz.prog 37 #[.string ⟨#[49, 49, 50, 53, 56, 57, 57, 57, 48, 54, 56, 52, 50, 54, 50, 53]⟩] W fun e w' => e = .returned (.tuple #[.agg #[.int .i64 0, .int .i64 0, .string ⟨#[]⟩], .int .i64 6]) ∧ Below W.heap.size W w' := fun W hE => by
    have := pParse_any ⟨#[49, 49, 50, 53, 56, 57, 57, 57, 48, 54, 56, 52, 50, 54, 50, 53]⟩ W hE (by decide)
    rw [show parP (ByteArray.mk #[49, 49, 50, 53, 56, 57, 57, 57, 48, 54, 56, 52, 50, 54, 50, 53]).data.toList = (0, 0, [], 6) by decide +kernel] at this
    exact this
  have i1 : ∀ W, Calls Tryz.prog 14 #[.int .i64 1125899906842625] W fun e w' => e = .returned (.agg #[.int .i64 0, .int .i64 0, .string ⟨#[]⟩]) ∧ Below W.heap.size W w' := fun W => by
    have := pInt_any 1125899906842625 W
    rw [vld_int_not (by omega)] at this
    exact this
  have i2 : ∀ W, Calls Tryz.prog 14 #[.int .i64 1] W fun e w' => e = .returned (.agg #[.int .i64 1, .int .i64 1, .string ⟨#[]⟩]) ∧ Below W.heap.size W w' := fun W => by
    have := pInt_any 1 W
    rw [vld_int (by omega)] at this
    exact this
  have t1 : ∀ W, Calls Tryz.prog 16 #[.string ⟨#[49]⟩] W fun e w' => e = .returned (.agg #[.int .i64 2, .int .i64 0, .string ⟨#[49]⟩]) ∧ Below W.heap.size W w' := fun W => by
    have := pText_any ⟨#[49]⟩ W
    rw [show (nrm 2 0 ⟨#[49]⟩) = vV 2 0 ⟨#[49]⟩ from nrm_text (t := [49]) (by decide) (by decide)] at this
    exact this
  have t2 : ∀ W, Calls Tryz.prog 16 #[.string ⟨#[105, 116, 39, 115]⟩] W fun e w' => e = .returned (.agg #[.int .i64 2, .int .i64 0, .string ⟨#[105, 116, 39, 115]⟩]) ∧ Below W.heap.size W w' := fun W => by
    have := pText_any ⟨#[105, 116, 39, 115]⟩ W
    rw [show (nrm 2 0 ⟨#[105, 116, 39, 115]⟩) = vV 2 0 ⟨#[105, 116, 39, 115]⟩ from nrm_text (t := [105, 116, 39, 115]) (by decide) (by decide)] at this
    exact this
  have n1 : ∀ W, Calls Tryz.prog 12 #[] W fun e w' => e = .returned (.agg #[.int .i64 0, .int .i64 0, .string ⟨#[]⟩]) ∧ Below W.heap.size W w' := fun W => pNull_any W
  have e1 : ∀ W, Calls Tryz.prog 23 #[.agg #[.int .i64 1, .int .i64 1, .string ⟨#[]⟩], .agg #[.int .i64 2, .int .i64 0, .string ⟨#[49]⟩]] W fun e w' => e = .returned (.int .i64 1) ∧ Below W.heap.size W w' := fun W => pEqual_any 1 1 ⟨#[]⟩ 2 0 ⟨#[49]⟩ W
  have a1 : ∀ W, Calls Tryz.prog 29 #[.int .i64 1, .int .i64 0] W fun e w' => e = .returned (.int .i64 0) ∧ Below W.heap.size W w' := fun W => pAnd_any 1 0 W
  have l1 : ∀ W, Env W → Calls Tryz.prog 39 #[.agg #[.int .i64 2, .int .i64 0, .string ⟨#[105, 116, 39, 115]⟩]] W fun e w' => e = .returned (.string ⟨#[39, 105, 116, 39, 39, 115, 39]⟩) ∧ Below W.heap.size W w' := fun W hE => by
    have := pLiteral_any 2 0 ⟨#[105, 116, 39, 115]⟩ W hE
    rw [show litV 2 0 ⟨#[105, 116, 39, 115]⟩ = [39, 105, 116, 39, 39, 115, 39] by
      unfold litV
      rw [show vldV 2 0 ⟨#[105, 116, 39, 115]⟩ = true by unfold vldV; rw [if_neg (by decide), if_neg (by decide), if_pos rfl]; decide +kernel]
      decide +kernel] at this
    exact this
  have q0 := fun W => eql_val 0 0 ⟨#[]⟩ 0 0 ⟨#[]⟩ W
  rw [show eqV 0 0 ⟨#[]⟩ 0 0 ⟨#[]⟩ = true by simp [eqV]] at q0
  go_enter Tryz.func20, Tryz.ntmps20
  go_wp2_with fail
  refine (p1 _ h).mono ?_
  rintro e w1 ⟨rfl, hb1⟩
  have E1 := h.step hb1
  have z1 := hb1.size
  have bA := (Below.refl w1.heap.size w1).alloc (Nat.le_refl _) (.cells #[.int .i64 0, .int .i64 0, .string ⟨#[]⟩] 23)
  have EA := E1.step bA
  have BA := hb1.trans (bA.mono z1)
  go_wp2_with fail
  generalize w1.alloc (.cells #[.int .i64 0, .int .i64 0, .string ⟨#[]⟩] 23) = wa at *
  have za := BA.size
  refine (p2 _ EA).mono ?_
  rintro e w2 ⟨rfl, hb2⟩
  have E2a := EA.step hb2
  have b2a := BA.trans (hb2.mono za)
  have z2a := b2a.size
  have bB := (Below.refl w2.heap.size w2).alloc (Nat.le_refl _) (.cells #[.int .i64 0, .int .i64 0, .string ⟨#[]⟩] 23)
  have E2 := E2a.step bB
  have b2 := b2a.trans (bB.mono z2a)
  have z2 := b2.size
  go_wp2_with fail
  generalize w2.alloc (.cells #[.int .i64 0, .int .i64 0, .string ⟨#[]⟩] 23) = w3 at *
  have z3 := b2.size
  skip
  refine (i1 _).mono ?_
  rintro e w4 ⟨rfl, hb4⟩
  have b4 := b2.trans (hb4.mono b2.size)
  go_wp2_with fail
  refine (n1 _).mono ?_
  rintro e w5 ⟨rfl, hb5⟩
  have b5 := b4.trans (hb5.mono b4.size)
  go_wp2_with fail
  refine (i2 _).mono ?_
  rintro e w6 ⟨rfl, hb6⟩
  have b6 := b5.trans (hb6.mono b5.size)
  go_wp2_with fail
  refine (t1 _).mono ?_
  rintro e w7 ⟨rfl, hb7⟩
  have b7 := b6.trans (hb7.mono b6.size)
  go_wp2_with fail
  refine (e1 _).mono ?_
  rintro e w8 ⟨rfl, hb8⟩
  have b8 := b7.trans (hb8.mono b7.size)
  go_wp2_with fail
  refine (a1 _).mono ?_
  rintro e w9 ⟨rfl, hb9⟩
  have b9 := b8.trans (hb9.mono b8.size)
  go_wp2_with fail
  refine (t2 _).mono ?_
  rintro e w10 ⟨rfl, hb10⟩
  have b10 := b9.trans (hb10.mono b9.size)
  have EE := h.step b10
  go_wp2_with fail
  refine (l1 _ EE).mono ?_
  rintro e w11 ⟨rfl, hb11⟩
  have b11 := b10.trans (hb11.mono b10.size)
  go_wp2
  go_ret
  exact ⟨rfl, b11⟩
end Go.Proofs.YthjnkekkjjcnfaaGreatDoor
