/-
  The walk of the statement ClockSteps. Conditions: at most 2^43 stamps.
-/
import Derived.Test.YtonhlejeedhpiaaCkW
import Derived.WalkKit
import Derived.WalkSpells
import Derived.WalkLawsBesides
import Derived.Deep.QuietTactic
import Derived.BigQuiet
import Derived.Handy
import Derived.Lib.Hide
namespace Go.Proofs.Ytonhlejeedhpiaa
open Go.RowKit
set_option maxRecDepth 100000 in
set_option maxHeartbeats 3200000 in
theorem law_steps (v : Value) (l : List (Int × Int)) (t : Int) (w : World) (L : Nat) (hv : RdP w L w.heap.size v l) (hbig : l.length ≤ 8796093022208) :
    Calls Try.prog 5 #[v, .int .i64 t] w fun e w' => e = .returned (.bool true) ∧ Below w.heap.size w w' := by
  have H0 := Lib.hid hv
  have hx1 := pLatest_any _ _ t _ _ hv
  obtain ⟨A, c, rfl, _, _⟩ := hv
  have hx2 := fun w' hb => rLatest_any _ _ t w' _ (H0.out.step (w' := w') hb (Nat.le_refl _))
  rw [latV_eq] at hx1
  simp only [latV_eq] at hx2
  generalize (lat t l).getD (0, 0) = p at *
  generalize (lat t l).isSome = b at *
  obtain ⟨x, y⟩ := p
  dsimp only at hx1 hx2
  have h1 : (x == x) = true := by simp
  have h2 : (y == y) = true := by simp
  have h3 : (b == b) = true := by simp
  go_enter Try.func5, Try.ntmps5
  go_wp2_with fail
  refine hx1.mono ?_
  rintro e w1 ⟨rfl, hb1⟩
  have Z1 := hb1.size
  have b1 : Below w.heap.size w (w1.alloc (.cells #[.int .i64 x, .int .i64 y] 34)) := hb1.alloc Z1 _
  have o1 := Own.new w1 34 #[.int .i64 x, .int .i64 y]
  clear hx1
  go_wp2_with fail
  refine (hx2 _ b1).mono ?_
  rintro e w2 ⟨rfl, hb2⟩
  have o2 := Own.below o1 hb2 o1.lt
  have B2 := b1.trans (hb2.mono b1.size)
  have Z2 := B2.size
  clear hx2 o1 hb2 b1 hb1
  have oS := o2.alloc (.cells #[.int .i64 x, .int .i64 y] 34)
  have oT := Own.new w2 34 #[.int .i64 x, .int .i64 y]
  have B3 : Below w.heap.size w (w2.alloc (.cells #[.int .i64 x, .int .i64 y] 34)) := B2.alloc Z2 _
  have L2 := o2.lt
  have H3 := Lib.hid (H0.out.step B3 (Nat.le_refl _))
  go_wp2_with fail
  refine (pSteps_any _ _ _ _ H3.out hbig).mono ?_
  rintro e w4 ⟨v4, rfl, hr4, hb4⟩
  have H4 := Lib.hid (H3.out.step hb4 (Nat.le_refl _))
  have oS4 := Own.below oS hb4 oS.lt
  have oT4 := Own.below oT hb4 oT.lt
  have B4 := B3.trans (hb4.mono B3.size)
  have Z4 := B4.size
  have R4 := Lib.hid hr4
  clear hr4 hb4 B3 oS oT H3 o2
  go_wp2_with fail
  refine (rSteps_any _ _ _ _ H4.out hbig).mono ?_
  rintro e w5 ⟨v5, rfl, hr5, hb5⟩
  have oS5 := Own.below oS4 hb5 oS4.lt
  have oT5 := Own.below oT4 hb5 oT4.lt
  have B5 := B4.trans (hb5.mono Z4)
  have Z5 := B5.size
  have R5 := Lib.hid hr5
  have S4 := Lib.hid (R4.out.step hb5 (Nat.le_refl _))
  clear hr5 hb5 B4 oS4 oT4 H4 R4
  go_wp2_with fail
  have hx6 := sameI_any v4 v5 _ _ _ _ _ S4.out R5.out
  rw [decide_eq_true rfl] at hx6
  refine hx6.mono ?_
  rintro e w6 ⟨rfl, hb6⟩
  have oS6 := Own.below oS5 hb6 oS5.lt
  have oT6 := Own.below oT5 hb6 oT5.lt
  have B6 := B5.trans (hb6.mono Z5)
  have Z6 := B6.size
  clear hx6 hb6 oS5 oT5 S4 R5 B5
  have d0 : w6.cell? ⟨w1.heap.size, 0, none⟩ = some (.int .i64 x) := oS6.cell 0
  have d1 : w6.cell? ⟨w1.heap.size, 1, none⟩ = some (.int .i64 y) := oS6.cell 1
  have d2 : w6.cell? ⟨w2.heap.size, 0, none⟩ = some (.int .i64 x) := oT6.cell 0
  have d3 : w6.cell? ⟨w2.heap.size, 1, none⟩ = some (.int .i64 y) := oT6.cell 1
  go_wp2_with fail
  refine (works_any _).mono ?_
  rintro e w7 ⟨rfl, hb7⟩
  go_wp2
  go_ret
  exact ⟨rfl, B6.trans (hb7.mono Z6)⟩
end Go.Proofs.Ytonhlejeedhpiaa
