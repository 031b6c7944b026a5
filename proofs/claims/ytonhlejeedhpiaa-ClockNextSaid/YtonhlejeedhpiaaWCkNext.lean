/-
  The walk of the statement ClockNext. Conditions: none.
-/
import Derived.Test.YtonhlejeedhpiaaCkW
import Derived.WalkKit
import Derived.WalkSpells
import Derived.WalkLawsBesides
import Derived.Deep.QuietTactic
import Derived.BigQuiet
import Derived.Handy
import Derived.Lib.Hide
namespace Go.Proofs.Ytonhlejeedhpiaa
open Go.RowKit
theorem nxV_form (a b r : Int) : ∃ p q s e : Int, nxV a b r = .tuple #[.agg #[.int .i64 p, .int .i64 q], .int .i64 s, .int .i64 e] := by
  by_cases h : nxE a b r = 0
  · exact ⟨_, _, _, _, nxV_ok h⟩
  · exact ⟨_, _, _, _, nxV_no h⟩
set_option maxRecDepth 100000 in
set_option maxHeartbeats 3200000 in
theorem law_next (a b r : Int) (w : World) :
    Calls Try.prog 3 #[.agg #[.int .i64 a, .int .i64 b], .int .i64 r] w fun e w' => e = .returned (.bool true) ∧ Below w.heap.size w w' := by
  obtain ⟨p, q, s, x, hF⟩ := nxV_form a b r
  have hx1 := fun w => pNext_any a b r w
  have hx2 := fun w => rNext_any a b r w
  have hx3 := fun w => pBehind_any a b r w
  have hx4 := fun w => rBehind_any a b r w
  rw [hF] at hx1 hx2
  generalize bhd a b r = z at *
  have h1 : (p == p) = true := by simp
  have h2 : (q == q) = true := by simp
  have h3 : (s == s) = true := by simp
  have h4 : (x == x) = true := by simp
  have h5 : (z == z) = true := by simp
  go_enter Try.func3, Try.ntmps3
  go_wp2_with fail
  refine (hx1 _).mono ?_
  rintro e w1 ⟨rfl, hb1⟩
  have b1 : Below w.heap.size w w1 := ((Below.refl _ _).alloc (Nat.le_refl _) _).trans (hb1.mono (by simp))
  have Z1 := b1.size
  have oP1 := Own.below (Own.new w 23 #[.int .i64 a, .int .i64 b]) hb1 (by simp)
  have B1 : Below w.heap.size w (w1.alloc (.cells #[.int .i64 p, .int .i64 q] 23)) := b1.alloc Z1 _
  have oP2 := oP1.alloc (.cells #[.int .i64 p, .int .i64 q] 23)
  have oD2 := Own.new w1 23 #[.int .i64 p, .int .i64 q]
  have a0 : (w1.alloc (.cells #[.int .i64 p, .int .i64 q] 23)).cell? ⟨w.heap.size, 0, none⟩ = some (.int .i64 a) := oP2.cell 0
  have a1 : (w1.alloc (.cells #[.int .i64 p, .int .i64 q] 23)).cell? ⟨w.heap.size, 1, none⟩ = some (.int .i64 b) := oP2.cell 1
  go_wp2_with fail
  refine (hx2 _).mono ?_
  rintro e w2 ⟨rfl, hb2⟩
  have oP3 := (Own.below oP2 hb2 oP2.lt).alloc (.cells #[.int .i64 p, .int .i64 q] 23)
  have oD3 := (Own.below oD2 hb2 oD2.lt).alloc (.cells #[.int .i64 p, .int .i64 q] 23)
  have oX3 := Own.new w2 23 #[.int .i64 p, .int .i64 q]
  have B2 := B1.trans (hb2.mono B1.size)
  have B3 : Below w.heap.size w (w2.alloc (.cells #[.int .i64 p, .int .i64 q] 23)) := B2.alloc B2.size _
  clear a0 a1 hx1 hx2 hb1 hb2 b1 oP1 oP2 oD2 B1 B2
  go_wp2
  have Z3 := B3.size
  generalize w2.alloc (.cells #[.int .i64 p, .int .i64 q] 23) = W at *
  have f0 : ∀ p' : After W, p'.w.cell? ⟨w.heap.size, 0, none⟩ = some (.int .i64 a) := after_cell oP3.lt (oP3.cell 0)
  have f1 : ∀ p' : After W, p'.w.cell? ⟨w.heap.size, 1, none⟩ = some (.int .i64 b) := after_cell oP3.lt (oP3.cell 1)
  have f2 : ∀ p' : After W, p'.w.cell? ⟨w1.heap.size, 0, none⟩ = some (.int .i64 p) := after_cell oD3.lt (oD3.cell 0)
  have f3 : ∀ p' : After W, p'.w.cell? ⟨w1.heap.size, 1, none⟩ = some (.int .i64 q) := after_cell oD3.lt (oD3.cell 1)
  have f4 : ∀ p' : After W, p'.w.cell? ⟨w2.heap.size, 0, none⟩ = some (.int .i64 p) := after_cell oX3.lt (oX3.cell 0)
  have f5 : ∀ p' : After W, p'.w.cell? ⟨w2.heap.size, 1, none⟩ = some (.int .i64 q) := after_cell oX3.lt (oX3.cell 1)
  (refine wp_region_after (by kernel_rfl) (by kernel_rfl) ?_; (repeat (go_big_quiet_step (first | (go_at_call 12; exact calls_after (hx3 _)) | (go_at_call 13; exact calls_after (hx4 _)) | (go_at_call 14; exact calls_after (works_any _))))); refine wpQuiet_nil ?_; intro wq hw0; obtain ⟨⟨wq0, hbq⟩, hw1⟩ := hw0; subst hw1; (try dsimp only))
  go_wp2
  go_ret
  exact ⟨rfl, B3.trans (hbq.mono Z3)⟩
end Go.Proofs.Ytonhlejeedhpiaa
