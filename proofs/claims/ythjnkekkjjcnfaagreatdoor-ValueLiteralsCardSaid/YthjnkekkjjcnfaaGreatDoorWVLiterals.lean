/-
  The walk of the statement ValueLiterals. Conditions: the tables lie as the rows say.
-/
import Derived.Test.YthjnkekkjjcnfaaGreatDoorVaX
import Derived.WalkKit
import Derived.WalkSpells
import Derived.WalkLawsBesides
import Derived.Deep.QuietTactic
import Derived.BigQuiet
import Derived.Handy
import Derived.Lib.Hide
namespace Go.Proofs.YthjnkekkjjcnfaaGreatDoor
open Go.RowKit

set_option maxRecDepth 100000 in
set_option maxHeartbeats 3200000 in
theorem lits_big (k n : Int) (s : ByteArray) (s1 : ByteArray) (w : World) (h : Env w) (hb : (s.size : Int) > 2000) :
    Calls Tryz.prog 6 #[.agg #[.int .i64 k, .int .i64 n, .string s], .string s1] w fun e w' => e = .returned (.bool true) ∧ Below w.heap.size w w' := by
  have b0 := (Below.refl w.heap.size w).alloc (Nat.le_refl _) (.cells #[.int .i64 k, .int .i64 n, .string s] 23)
  have o0 := Own.new w 23 #[.int .i64 k, .int .i64 n, .string s]
  have E0 := h.step b0
  go_enter Tryz.func6, Tryz.ntmps6
  go_wp2_with fail
  refine (awake_any _ E0).mono ?_
  rintro e w1 ⟨rfl, hb1⟩
  have b1 := b0.trans (hb1.mono b0.size)
  go_wp2
  go_ret
  exact ⟨rfl, b1⟩
set_option maxRecDepth 100000 in
set_option maxHeartbeats 3200000 in
theorem lits_long (k n : Int) (s : ByteArray) (s1 : ByteArray) (w : World) (h : Env w) (ha : ¬ (s.size : Int) > 2000) (hb : (s1.size : Int) > 2000) :
    Calls Tryz.prog 6 #[.agg #[.int .i64 k, .int .i64 n, .string s], .string s1] w fun e w' => e = .returned (.bool true) ∧ Below w.heap.size w w' := by
  have b0 := (Below.refl w.heap.size w).alloc (Nat.le_refl _) (.cells #[.int .i64 k, .int .i64 n, .string s] 23)
  have o0 := Own.new w 23 #[.int .i64 k, .int .i64 n, .string s]
  have E0 := h.step b0
  go_enter Tryz.func6, Tryz.ntmps6
  go_wp2_with fail
  refine (awake_any _ E0).mono ?_
  rintro e w1 ⟨rfl, hb1⟩
  have b1 := b0.trans (hb1.mono b0.size)
  go_wp2
  go_ret
  exact ⟨rfl, b1⟩
set_option maxRecDepth 100000 in
set_option maxHeartbeats 3200000 in
theorem lits_main (k n : Int) (s : ByteArray) (s1 : ByteArray) (w : World) (h : Env w) (ha : ¬ (s.size : Int) > 2000) (hb : ¬ (s1.size : Int) > 2000) (k1 n1 er : Int) (t1 lt : ByteArray)
    (hP : ∀ W, Env W → Calls Tryz.prog 37 #[.string s1] W fun e w' => e = .returned (.tuple #[.agg #[.int .i64 k1, .int .i64 n1, .string t1], .int .i64 er]) ∧ Below W.heap.size W w')
    (hR : ∀ W, Calls Tryz.prog 38 #[.string s1] W fun e w' => e = .returned (.tuple #[.agg #[.int .i64 k1, .int .i64 n1, .string t1], .int .i64 er]) ∧ Below W.heap.size W w')
    (hL : ∀ W, Env W → Calls Tryz.prog 39 #[.agg #[.int .i64 k, .int .i64 n, .string s]] W fun e w' => e = .returned (.string lt) ∧ Below W.heap.size W w')
    (hM : ∀ W, Calls Tryz.prog 40 #[.agg #[.int .i64 k, .int .i64 n, .string s]] W fun e w' => e = .returned (.string lt) ∧ Below W.heap.size W w') :
    Calls Tryz.prog 6 #[.agg #[.int .i64 k, .int .i64 n, .string s], .string s1] w fun e w' => e = .returned (.bool true) ∧ Below w.heap.size w w' := by
  have b0 := (Below.refl w.heap.size w).alloc (Nat.le_refl _) (.cells #[.int .i64 k, .int .i64 n, .string s] 23)
  have o0 := Own.new w 23 #[.int .i64 k, .int .i64 n, .string s]
  have E0 := h.step b0
  have q := fun W => eql_self k1 n1 t1 W
  go_enter Tryz.func6, Tryz.ntmps6
  go_wp2_with fail
  refine (hP _ E0).mono ?_
  rintro e w1 ⟨rfl, hb1⟩
  have b1 := b0.trans (hb1.mono b0.size)
  have o1 := o0.below hb1 o0.lt
  have b2 := b1.alloc b1.size (.cells #[.int .i64 k1, .int .i64 n1, .string t1] 23)
  have oA := Own.new w1 23 #[.int .i64 k1, .int .i64 n1, .string t1]
  have o2 := o1.alloc (.cells #[.int .i64 k1, .int .i64 n1, .string t1] 23)
  clear o0 E0 hP o1
  go_wp2_with fail
  generalize w1.alloc (.cells #[.int .i64 k1, .int .i64 n1, .string t1] 23) = w2 at *
  refine (hR _).mono ?_
  rintro e w3 ⟨rfl, hb3⟩
  have b3 := b2.trans (hb3.mono b2.size)
  have o3 := o2.below hb3 o2.lt
  have oA3 := oA.below hb3 oA.lt
  have b4 := b3.alloc b3.size (.cells #[.int .i64 k1, .int .i64 n1, .string t1] 23)
  have oC := Own.new w3 23 #[.int .i64 k1, .int .i64 n1, .string t1]
  have o4 := o3.alloc (.cells #[.int .i64 k1, .int .i64 n1, .string t1] 23)
  have oA4 := oA3.alloc (.cells #[.int .i64 k1, .int .i64 n1, .string t1] 23)
  have E4 := h.step b4
  clear o2 oA o3 oA3 hR
  go_wp2_with fail
  generalize w3.alloc (.cells #[.int .i64 k1, .int .i64 n1, .string t1] 23) = w4 at *
  obtain ⟨f0, f1, f2⟩ := val_cells o4.lt o4
  obtain ⟨g0, g1, g2⟩ := val_cells oA4.lt oA4
  obtain ⟨i0, i1, i2⟩ := val_cells oC.lt oC
  have hA : ∀ p : After w4, Calls Tryz.prog 20 #[] p.w fun e w' => e = .returned (.bool true) ∧ Below p.w.heap.size p.w w' := fun p => awake_any p.w (E4.step p.h)
  have hL2 : ∀ p : After w4, Calls Tryz.prog 39 #[.agg #[.int .i64 k, .int .i64 n, .string s]] p.w fun e w' => e = .returned (.string lt) ∧ Below p.w.heap.size p.w w' := fun p => hL p.w (E4.step p.h)
  clear hL
  (refine wp_region_after (by kernel_rfl) (by kernel_rfl) ?_; (repeat (go_big_quiet_step ((first | (go_at_call 39; exact calls_after (hL2 _)) | (go_at_call 40; exact calls_after (hM _)) | (go_at_call 20; exact calls_after (hA _)))))); refine wpQuiet_nil ?_; intro w5 hw0; obtain ⟨⟨wq0, hb5⟩, hw1⟩ := hw0; subst hw1; (try dsimp only))
  have b5 := b4.trans (hb5.mono b4.size)
  go_wp2
  go_ret
  exact ⟨rfl, b5⟩
theorem law_literals (k n : Int) (s : ByteArray) (s1 : ByteArray) (w : World) (h : Env w) :
    Calls Tryz.prog 6 #[.agg #[.int .i64 k, .int .i64 n, .string s], .string s1] w fun e w' => e = .returned (.bool true) ∧ Below w.heap.size w w' := by
  by_cases ha : (s.size : Int) > 2000
  · exact lits_big k n s s1 w h ha
  by_cases hb : (s1.size : Int) > 2000
  · exact lits_long k n s s1 w h ha hb
  have hs : s1.size ≤ 2097152 := by omega
  have hP := fun W (hE : Env W) => pParse_any s1 W hE hs
  have hR := fun W => rParse_any s1 W hs
  unfold resV vV at hP hR
  exact lits_main k n s s1 w h ha hb _ _ _ _ _ hP hR (fun W hE => pLiteral_any k n s W hE) (fun W => rLiteral_any k n s W)
end Go.Proofs.YthjnkekkjjcnfaaGreatDoor
