/-
  The walk of the statement ValueLogic. Conditions: the tables lie as the rows say.
-/
import Derived.Test.YthjnkekkjjcnfaaGreatDoorVaM
import Derived.WalkKit
import Derived.WalkSpells
import Derived.WalkLawsBesides
import Derived.Deep.QuietTactic
import Derived.BigQuiet
import Derived.Handy
import Derived.Lib.Hide
namespace Go.Proofs.YthjnkekkjjcnfaaGreatDoor
open Go.RowKit

set_option maxRecDepth 100000 in
set_option maxHeartbeats 3200000 in
theorem law_logic (a b k n : Int) (s : ByteArray) (w : World) (h : Env w) :
    Calls Tryz.prog 5 #[.int .i64 a, .int .i64 b, .agg #[.int .i64 k, .int .i64 n, .string s]] w fun e w' => e = .returned (.bool true) ∧ Below w.heap.size w w' := by
  obtain ⟨x, y, z, ho⟩ := ofT_agg a
  have hP := fun W => pOf_any a W
  have hR := fun W => rOf_any a W
  rw [ho] at hP hR
  clear ho
  have q := fun W => eql_self x y z W
  have b0 := ((Below.refl w.heap.size w).alloc (by first | exact Nat.le_refl _ | (simp only [World.size_alloc]; omega)) (.cells #[.int .i64 k, .int .i64 n, .string s] 23))
  have oO := Own.new w 23 #[.int .i64 k, .int .i64 n, .string s]
  have o0_0 : Own (w.alloc (.cells #[.int .i64 k, .int .i64 n, .string s] 23)) (w.heap.size) 23 #[.int .i64 k, .int .i64 n, .string s] := by simpa only [World.size_alloc, Nat.add_assoc] using oO
  clear oO
  go_enter Tryz.func5, Tryz.ntmps5
  go_wp2_with fail
  have E0 := h.step b0
  have z0 := b0.size
  generalize (w.alloc (.cells #[.int .i64 k, .int .i64 n, .string s] 23)) = W0 at *
  obtain ⟨f0_0, f1_0, f2_0⟩ := val_cells o0_0.lt o0_0
  have hAw : ∀ p : After W0, Calls Tryz.prog 20 #[] p.w fun e w' => e = .returned (.bool true) ∧ Below p.w.heap.size p.w w' := fun p => awake_any p.w (E0.step p.h)
  (refine wp_region_after (by kernel_rfl) (by kernel_rfl) ?_; (repeat (go_big_quiet_step ((first | (go_at_call 27; exact calls_after (pNot_any a _)) | (go_at_call 28; exact calls_after (rNot_any a _)) | (go_at_call 29; exact calls_after (pAnd_any a b _)) | (go_at_call 30; exact calls_after (rAnd_any a b _)) | (go_at_call 31; exact calls_after (pOr_any a b _)) | (go_at_call 32; exact calls_after (rOr_any a b _)) | (go_at_call 33; exact calls_after (pTruth_any k n s _)) | (go_at_call 34; exact calls_after (rTruth_any k n s _)) | (go_at_call 35; exact calls_after (hP _)) | (go_at_call 36; exact calls_after (hR _)) | (go_at_call 20; exact calls_after (hAw _)))))); refine wpQuiet_nil ?_; intro wq hw0; obtain ⟨⟨wq0, hbq⟩, hw1⟩ := hw0; subst hw1; (try dsimp only))
  go_wp2
  go_ret
  exact ⟨rfl, b0.trans (hbq.mono z0)⟩
end Go.Proofs.YthjnkekkjjcnfaaGreatDoor
