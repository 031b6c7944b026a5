/-
  The walk of the statement ValueCompares. Conditions: the tables lie as the rows say.
-/
import Derived.Test.YthjnkekkjjcnfaaGreatDoorVaM
import Derived.WalkKit
import Derived.WalkSpells
import Derived.WalkLawsBesides
import Derived.Deep.QuietTactic
import Derived.BigQuiet
import Derived.Handy
import Derived.Lib.Hide
namespace Go.Proofs.YthjnkekkjjcnfaaGreatDoor
open Go.RowKit

set_option maxRecDepth 100000 in
set_option maxHeartbeats 3200000 in
theorem law_compares (k n : Int) (s : ByteArray) (k2 n2 : Int) (s2 : ByteArray) (w : World) (h : Env w) :
    Calls Tryz.prog 4 #[.agg #[.int .i64 k, .int .i64 n, .string s], .agg #[.int .i64 k2, .int .i64 n2, .string s2]] w fun e w' => e = .returned (.bool true) ∧ Below w.heap.size w w' := by
  have b0 := (((Below.refl w.heap.size w).alloc (by first | exact Nat.le_refl _ | (simp only [World.size_alloc]; omega)) (.cells #[.int .i64 k, .int .i64 n, .string s] 23)).alloc (by first | exact Nat.le_refl _ | (simp only [World.size_alloc]; omega)) (.cells #[.int .i64 k2, .int .i64 n2, .string s2] 23))
  have oO := (Own.new w 23 #[.int .i64 k, .int .i64 n, .string s]).alloc (.cells #[.int .i64 k2, .int .i64 n2, .string s2] 23)
  have o0_0 : Own ((w.alloc (.cells #[.int .i64 k, .int .i64 n, .string s] 23)).alloc (.cells #[.int .i64 k2, .int .i64 n2, .string s2] 23)) (w.heap.size) 23 #[.int .i64 k, .int .i64 n, .string s] := by simpa only [World.size_alloc, Nat.add_assoc] using oO
  clear oO
  have oO := Own.new (w.alloc (.cells #[.int .i64 k, .int .i64 n, .string s] 23)) 23 #[.int .i64 k2, .int .i64 n2, .string s2]
  have o0_1 : Own ((w.alloc (.cells #[.int .i64 k, .int .i64 n, .string s] 23)).alloc (.cells #[.int .i64 k2, .int .i64 n2, .string s2] 23)) (w.heap.size + 1) 23 #[.int .i64 k2, .int .i64 n2, .string s2] := by simpa only [World.size_alloc, Nat.add_assoc] using oO
  clear oO
  go_enter Tryz.func4, Tryz.ntmps4
  go_wp2_with fail
  have E0 := h.step b0
  have z0 := b0.size
  generalize ((w.alloc (.cells #[.int .i64 k, .int .i64 n, .string s] 23)).alloc (.cells #[.int .i64 k2, .int .i64 n2, .string s2] 23)) = W0 at *
  obtain ⟨f0_0, f1_0, f2_0⟩ := val_cells o0_0.lt o0_0
  obtain ⟨f0_1, f1_1, f2_1⟩ := val_cells o0_1.lt o0_1
  have hAw : ∀ p : After W0, Calls Tryz.prog 20 #[] p.w fun e w' => e = .returned (.bool true) ∧ Below p.w.heap.size p.w w' := fun p => awake_any p.w (E0.step p.h)
  (refine wp_region_after (by kernel_rfl) (by kernel_rfl) ?_; (repeat (go_big_quiet_step ((first | (go_at_call 21; exact calls_after (pCompare_any k n s k2 n2 s2 _)) | (go_at_call 22; exact calls_after (rCompare_any k n s k2 n2 s2 _)) | (go_at_call 23; exact calls_after (pEqual_any k n s k2 n2 s2 _)) | (go_at_call 24; exact calls_after (rEqual_any k n s k2 n2 s2 _)) | (go_at_call 25; exact calls_after (pLess_any k n s k2 n2 s2 _)) | (go_at_call 26; exact calls_after (rLess_any k n s k2 n2 s2 _)) | (go_at_call 20; exact calls_after (hAw _)))))); refine wpQuiet_nil ?_; intro wq hw0; obtain ⟨⟨wq0, hbq⟩, hw1⟩ := hw0; subst hw1; (try dsimp only))
  go_wp2
  go_ret
  exact ⟨rfl, b0.trans (hbq.mono z0)⟩
end Go.Proofs.YthjnkekkjjcnfaaGreatDoor
