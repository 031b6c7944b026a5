/-
  The walk of the statement ValueConstructs. Conditions: the tables lie as the rows say.
-/
import Derived.Test.YthjnkekkjjcnfaaGreatDoorVaM
import Derived.WalkKit
import Derived.WalkSpells
import Derived.WalkLawsBesides
import Derived.Deep.QuietTactic
import Derived.BigQuiet
import Derived.Handy
import Derived.Lib.Hide
namespace Go.Proofs.YthjnkekkjjcnfaaGreatDoor
open Go.RowKit

set_option maxRecDepth 100000 in
set_option maxHeartbeats 3200000 in
theorem law_constructs (k n : Int) (s : ByteArray) (i : Int) (t : ByteArray) (b : Bool) (w : World) (h : Env w) :
    Calls Tryz.prog 3 #[.agg #[.int .i64 k, .int .i64 n, .string s], .int .i64 i, .string t, .bool b] w fun e w' => e = .returned (.bool true) ∧ Below w.heap.size w w' := by
  obtain ⟨x, y, z, ho⟩ := nrm_agg 1 i ⟨#[]⟩
  obtain ⟨x2, y2, z2, ho2⟩ := nrm_agg 2 0 t
  have hPi := fun W => pInt_any i W
  have hRi := fun W => rInt_any i W
  have hPt := fun W => pText_any t W
  have hRt := fun W => rText_any t W
  have hPb := fun W => pBool_any b W
  have hRb := fun W => rBool_any b W
  have hPn := fun W => pNull_any W
  have hRn := fun W => rNull_any W
  unfold vB at hPb hRb
  generalize (if b = true then (1 : Int) else 0) = bi at *
  unfold vV at hPb hRb hPn hRn
  rw [ho] at hPi hRi
  rw [ho2] at hPt hRt
  clear ho ho2
  have q := fun W => eql_self x y z W
  have q2 := fun W => eql_self x2 y2 z2 W
  have q3 := fun W => eql_self 3 bi ⟨#[]⟩ W
  have q4 := fun W => eql_self 0 0 ⟨#[]⟩ W
  have b0 := ((Below.refl w.heap.size w).alloc (by first | exact Nat.le_refl _ | (simp only [World.size_alloc]; omega)) (.cells #[.int .i64 k, .int .i64 n, .string s] 23))
  have oO := Own.new w 23 #[.int .i64 k, .int .i64 n, .string s]
  have o0_0 : Own (w.alloc (.cells #[.int .i64 k, .int .i64 n, .string s] 23)) (w.heap.size) 23 #[.int .i64 k, .int .i64 n, .string s] := by simpa only [World.size_alloc, Nat.add_assoc] using oO
  clear oO
  go_enter Tryz.func3, Tryz.ntmps3
  go_wp2_with fail
  have E0 := h.step b0
  have z0 := b0.size
  generalize (w.alloc (.cells #[.int .i64 k, .int .i64 n, .string s] 23)) = W0 at *
  obtain ⟨f0_0, f1_0, f2_0⟩ := val_cells o0_0.lt o0_0
  have hAw : ∀ p : After W0, Calls Tryz.prog 20 #[] p.w fun e w' => e = .returned (.bool true) ∧ Below p.w.heap.size p.w w' := fun p => awake_any p.w (E0.step p.h)
  (refine wp_region_after (by kernel_rfl) (by kernel_rfl) ?_; (repeat (go_big_quiet_step ((first | (go_at_call 10; exact calls_after (pValid_any k n s _)) | (go_at_call 11; exact calls_after (rValid_any k n s _)) | (go_at_call 12; exact calls_after (hPn _)) | (go_at_call 13; exact calls_after (hRn _)) | (go_at_call 14; exact calls_after (hPi _)) | (go_at_call 15; exact calls_after (hRi _)) | (go_at_call 16; exact calls_after (hPt _)) | (go_at_call 17; exact calls_after (hRt _)) | (go_at_call 18; exact calls_after (hPb _)) | (go_at_call 19; exact calls_after (hRb _)) | (go_at_call 20; exact calls_after (hAw _)))))); refine wpQuiet_nil ?_; intro wq hw0; obtain ⟨⟨wq0, hbq⟩, hw1⟩ := hw0; subst hw1; (try dsimp only))
  go_wp2
  go_ret
  exact ⟨rfl, b0.trans (hbq.mono z0)⟩
end Go.Proofs.YthjnkekkjjcnfaaGreatDoor
