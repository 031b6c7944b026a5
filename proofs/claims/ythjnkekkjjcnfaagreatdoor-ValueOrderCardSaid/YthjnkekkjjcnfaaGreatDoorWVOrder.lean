/-
  The walk of the statement ValueOrder. Conditions: the tables lie as the rows say.
-/
import Derived.Test.YthjnkekkjjcnfaaGreatDoorVaO
import Derived.WalkKit
import Derived.WalkSpells
import Derived.WalkLawsBesides
import Derived.Deep.QuietTactic
import Derived.BigQuiet
import Derived.Handy
import Derived.Lib.Hide
namespace Go.Proofs.YthjnkekkjjcnfaaGreatDoor
open Go.RowKit

set_option maxRecDepth 100000 in
set_option maxHeartbeats 3200000 in
theorem order_walk (k n : Int) (s : ByteArray) (k2 n2 : Int) (s2 : ByteArray) (k3 n3 : Int) (s3 : ByteArray) (X Y Z L1 E1 L2 : Int) (w : World) (h : Env w) (c1 : ∀ W, Calls Tryz.prog 21 #[.agg #[.int .i64 k, .int .i64 n, .string s], .agg #[.int .i64 k2, .int .i64 n2, .string s2]] W fun e w' => e = .returned (.int .i64 X) ∧ Below W.heap.size W w') (c2 : ∀ W, Calls Tryz.prog 21 #[.agg #[.int .i64 k2, .int .i64 n2, .string s2], .agg #[.int .i64 k3, .int .i64 n3, .string s3]] W fun e w' => e = .returned (.int .i64 Y) ∧ Below W.heap.size W w') (c3 : ∀ W, Calls Tryz.prog 21 #[.agg #[.int .i64 k2, .int .i64 n2, .string s2], .agg #[.int .i64 k, .int .i64 n, .string s]] W fun e w' => e = .returned (.int .i64 (-X)) ∧ Below W.heap.size W w') (c4 : ∀ W, Calls Tryz.prog 21 #[.agg #[.int .i64 k, .int .i64 n, .string s], .agg #[.int .i64 k3, .int .i64 n3, .string s3]] W fun e w' => e = .returned (.int .i64 Z) ∧ Below W.heap.size W w') (l1 : ∀ W, Calls Tryz.prog 25 #[.agg #[.int .i64 k, .int .i64 n, .string s], .agg #[.int .i64 k2, .int .i64 n2, .string s2]] W fun e w' => e = .returned (.int .i64 L1) ∧ Below W.heap.size W w') (e1 : ∀ W, Calls Tryz.prog 23 #[.agg #[.int .i64 k, .int .i64 n, .string s], .agg #[.int .i64 k2, .int .i64 n2, .string s2]] W fun e w' => e = .returned (.int .i64 E1) ∧ Below W.heap.size W w') (l2 : ∀ W, Calls Tryz.prog 25 #[.agg #[.int .i64 k2, .int .i64 n2, .string s2], .agg #[.int .i64 k, .int .i64 n, .string s]] W fun e w' => e = .returned (.int .i64 L2) ∧ Below W.heap.size W w') (q : ∀ W, (binOp .eql 23 (.agg #[.int .i64 k, .int .i64 n, .string s]) (.agg #[.int .i64 k2, .int .i64 n2, .string s2])).run Tryz.prog W = .ok (.bool (decide (X = 0))) W) (hX : X = -1 ∨ X = 0 ∨ X = 1) (hZ : X ≤ 0 → Y ≤ 0 → Z ≤ 0) (hN : (k ≠ k2 ∨ k = 0) → L1 = 1 ∧ E1 = 1) (hK : ¬ (k ≠ k2 ∨ k = 0) → L1 = (if X < 0 then 2 else 0) ∧ E1 = (if X = 0 then 2 else 0) ∧ L2 = (if 0 < X then 2 else 0)) :
    Calls Tryz.prog 8 #[.agg #[.int .i64 k, .int .i64 n, .string s], .agg #[.int .i64 k2, .int .i64 n2, .string s2], .agg #[.int .i64 k3, .int .i64 n3, .string s3]] w fun e w' => e = .returned (.bool true) ∧ Below w.heap.size w w' := by
  have b0 := ((((Below.refl w.heap.size w).alloc (by first | exact Nat.le_refl _ | (simp only [World.size_alloc]; omega)) (.cells #[.int .i64 k, .int .i64 n, .string s] 23)).alloc (by first | exact Nat.le_refl _ | (simp only [World.size_alloc]; omega)) (.cells #[.int .i64 k2, .int .i64 n2, .string s2] 23)).alloc (by first | exact Nat.le_refl _ | (simp only [World.size_alloc]; omega)) (.cells #[.int .i64 k3, .int .i64 n3, .string s3] 23))
  have oO := ((Own.new w 23 #[.int .i64 k, .int .i64 n, .string s]).alloc (.cells #[.int .i64 k2, .int .i64 n2, .string s2] 23)).alloc (.cells #[.int .i64 k3, .int .i64 n3, .string s3] 23)
  have o0_0 : Own (((w.alloc (.cells #[.int .i64 k, .int .i64 n, .string s] 23)).alloc (.cells #[.int .i64 k2, .int .i64 n2, .string s2] 23)).alloc (.cells #[.int .i64 k3, .int .i64 n3, .string s3] 23)) (w.heap.size) 23 #[.int .i64 k, .int .i64 n, .string s] := by simpa only [World.size_alloc, Nat.add_assoc] using oO
  clear oO
  have oO := (Own.new (w.alloc (.cells #[.int .i64 k, .int .i64 n, .string s] 23)) 23 #[.int .i64 k2, .int .i64 n2, .string s2]).alloc (.cells #[.int .i64 k3, .int .i64 n3, .string s3] 23)
  have o0_1 : Own (((w.alloc (.cells #[.int .i64 k, .int .i64 n, .string s] 23)).alloc (.cells #[.int .i64 k2, .int .i64 n2, .string s2] 23)).alloc (.cells #[.int .i64 k3, .int .i64 n3, .string s3] 23)) (w.heap.size + 1) 23 #[.int .i64 k2, .int .i64 n2, .string s2] := by simpa only [World.size_alloc, Nat.add_assoc] using oO
  clear oO
  have oO := Own.new ((w.alloc (.cells #[.int .i64 k, .int .i64 n, .string s] 23)).alloc (.cells #[.int .i64 k2, .int .i64 n2, .string s2] 23)) 23 #[.int .i64 k3, .int .i64 n3, .string s3]
  have o0_2 : Own (((w.alloc (.cells #[.int .i64 k, .int .i64 n, .string s] 23)).alloc (.cells #[.int .i64 k2, .int .i64 n2, .string s2] 23)).alloc (.cells #[.int .i64 k3, .int .i64 n3, .string s3] 23)) (w.heap.size + 2) 23 #[.int .i64 k3, .int .i64 n3, .string s3] := by simpa only [World.size_alloc, Nat.add_assoc] using oO
  clear oO
  go_enter Tryz.func8, Tryz.ntmps8
  go_wp2_with fail
  have E0 := h.step b0
  have z0 := b0.size
  generalize (((w.alloc (.cells #[.int .i64 k, .int .i64 n, .string s] 23)).alloc (.cells #[.int .i64 k2, .int .i64 n2, .string s2] 23)).alloc (.cells #[.int .i64 k3, .int .i64 n3, .string s3] 23)) = W0 at *
  obtain ⟨f0_0, f1_0, f2_0⟩ := val_cells o0_0.lt o0_0
  obtain ⟨f0_1, f1_1, f2_1⟩ := val_cells o0_1.lt o0_1
  obtain ⟨f0_2, f1_2, f2_2⟩ := val_cells o0_2.lt o0_2
  have E0x := h.step b0
  have hAw : ∀ p : After W0, Calls Tryz.prog 20 #[] p.w fun e w' => e = .returned (.bool true) ∧ Below p.w.heap.size p.w w' := fun p => awake_any p.w (E0x.step p.h)
  (refine wp_region_after (by kernel_rfl) (by kernel_rfl) ?_; (repeat (go_big_quiet_step ((first | (go_at_call 21; (first | (with_reducible exact calls_after (c1 _)) | (with_reducible exact calls_after (c2 _)) | (with_reducible exact calls_after (c3 _)) | (with_reducible exact calls_after (c4 _)))) | (go_at_call 25; (first | (with_reducible exact calls_after (l1 _)) | (with_reducible exact calls_after (l2 _)))) | (go_at_call 23; exact calls_after (e1 _)) | (go_at_call 20; exact calls_after (hAw _)))))); refine wpQuiet_nil ?_; intro wq1 hw0; obtain ⟨⟨wq0, hbq1⟩, hw1⟩ := hw0; subst hw1; (try dsimp only))
  clear f0_0 f1_0 f2_0 f0_1 f1_1 f2_1 f0_2 f1_2 f2_2 hAw E0x
  have b1 := b0.trans (hbq1.mono b0.size)
  have o1_0 := o0_0.below hbq1 o0_0.lt
  clear o0_0
  have o1_1 := o0_1.below hbq1 o0_1.lt
  clear o0_1
  have o1_2 := o0_2.below hbq1 o0_2.lt
  clear o0_2
  rcases hX with rfl | rfl | rfl
  · rw [show decide ((-1 : Int) = 0) = false by decide] at q
    by_cases hy : Y ≤ 0
    · have hz := hZ (by decide) hy
      clear hZ
      have d0_0 := o1_0.cell 0; have e0_0 := o1_0.free 0; have d1_0 := o1_0.cell 1; have e1_0 := o1_0.free 1; have d2_0 := o1_0.cell 2; have e2_0 := o1_0.free 2; (try simp only [List.getElem?_toArray, List.getElem?_cons_zero, List.getElem?_cons_succ] at d0_0 d1_0 d2_0)
      have d0_1 := o1_1.cell 0; have e0_1 := o1_1.free 0; have d1_1 := o1_1.cell 1; have e1_1 := o1_1.free 1; have d2_1 := o1_1.cell 2; have e2_1 := o1_1.free 2; (try simp only [List.getElem?_toArray, List.getElem?_cons_zero, List.getElem?_cons_succ] at d0_1 d1_1 d2_1)
      have d0_2 := o1_2.cell 0; have e0_2 := o1_2.free 0; have d1_2 := o1_2.cell 1; have e1_2 := o1_2.free 1; have d2_2 := o1_2.cell 2; have e2_2 := o1_2.free 2; (try simp only [List.getElem?_toArray, List.getElem?_cons_zero, List.getElem?_cons_succ] at d0_2 d1_2 d2_2)
      go_wp2_with fail
      refine (c3 _).mono ?_
      rintro e wq2 ⟨rfl, hbq2⟩
      have b2 := b1.trans (hbq2.mono b1.size)
      clear d0_0 d1_0 d2_0 e0_0 e1_0 e2_0
      clear d0_1 d1_1 d2_1 e0_1 e1_1 e2_1
      clear d0_2 d1_2 d2_2 e0_2 e1_2 e2_2
      have o2_0 := o1_0.below hbq2 o1_0.lt
      clear o1_0
      have o2_1 := o1_1.below hbq2 o1_1.lt
      clear o1_1
      have o2_2 := o1_2.below hbq2 o1_2.lt
      clear o1_2
      have d0_0 := o2_0.cell 0; have e0_0 := o2_0.free 0; have d1_0 := o2_0.cell 1; have e1_0 := o2_0.free 1; have d2_0 := o2_0.cell 2; have e2_0 := o2_0.free 2; (try simp only [List.getElem?_toArray, List.getElem?_cons_zero, List.getElem?_cons_succ] at d0_0 d1_0 d2_0)
      have d0_1 := o2_1.cell 0; have e0_1 := o2_1.free 0; have d1_1 := o2_1.cell 1; have e1_1 := o2_1.free 1; have d2_1 := o2_1.cell 2; have e2_1 := o2_1.free 2; (try simp only [List.getElem?_toArray, List.getElem?_cons_zero, List.getElem?_cons_succ] at d0_1 d1_1 d2_1)
      have d0_2 := o2_2.cell 0; have e0_2 := o2_2.free 0; have d1_2 := o2_2.cell 1; have e1_2 := o2_2.free 1; have d2_2 := o2_2.cell 2; have e2_2 := o2_2.free 2; (try simp only [List.getElem?_toArray, List.getElem?_cons_zero, List.getElem?_cons_succ] at d0_2 d1_2 d2_2)
      go_wp2_with fail
      refine (c4 _).mono ?_
      rintro e wq3 ⟨rfl, hbq3⟩
      have b3 := b2.trans (hbq3.mono b2.size)
      clear d0_0 d1_0 d2_0 e0_0 e1_0 e2_0
      clear d0_1 d1_1 d2_1 e0_1 e1_1 e2_1
      clear d0_2 d1_2 d2_2 e0_2 e1_2 e2_2
      have o3_0 := o2_0.below hbq3 o2_0.lt
      clear o2_0
      have o3_1 := o2_1.below hbq3 o2_1.lt
      clear o2_1
      have o3_2 := o2_2.below hbq3 o2_2.lt
      clear o2_2
      have d0_0 := o3_0.cell 0; have e0_0 := o3_0.free 0; have d1_0 := o3_0.cell 1; have e1_0 := o3_0.free 1; have d2_0 := o3_0.cell 2; have e2_0 := o3_0.free 2; (try simp only [List.getElem?_toArray, List.getElem?_cons_zero, List.getElem?_cons_succ] at d0_0 d1_0 d2_0)
      have d0_1 := o3_1.cell 0; have e0_1 := o3_1.free 0; have d1_1 := o3_1.cell 1; have e1_1 := o3_1.free 1; have d2_1 := o3_1.cell 2; have e2_1 := o3_1.free 2; (try simp only [List.getElem?_toArray, List.getElem?_cons_zero, List.getElem?_cons_succ] at d0_1 d1_1 d2_1)
      have d0_2 := o3_2.cell 0; have e0_2 := o3_2.free 0; have d1_2 := o3_2.cell 1; have e1_2 := o3_2.free 1; have d2_2 := o3_2.cell 2; have e2_2 := o3_2.free 2; (try simp only [List.getElem?_toArray, List.getElem?_cons_zero, List.getElem?_cons_succ] at d0_2 d1_2 d2_2)
      by_cases hk : k ≠ k2 ∨ k = 0
      · obtain ⟨rfl, rfl⟩ := hN hk
        clear hN hK
        by_cases hkk : k = k2
        · subst hkk
          have hk0 : k = 0 := by rcases hk with h | h; exact absurd rfl h; exact h
          clear hk
          subst hk0
          go_wp2_with fail
          refine (l1 _).mono ?_
          rintro e wq4 ⟨rfl, hbq4⟩
          have b4 := b3.trans (hbq4.mono b3.size)
          clear d0_0 d1_0 d2_0 e0_0 e1_0 e2_0
          clear d0_1 d1_1 d2_1 e0_1 e1_1 e2_1
          clear d0_2 d1_2 d2_2 e0_2 e1_2 e2_2
          have o4_0 := o3_0.below hbq4 o3_0.lt
          clear o3_0
          have o4_1 := o3_1.below hbq4 o3_1.lt
          clear o3_1
          have o4_2 := o3_2.below hbq4 o3_2.lt
          clear o3_2
          have d0_0 := o4_0.cell 0; have e0_0 := o4_0.free 0; have d1_0 := o4_0.cell 1; have e1_0 := o4_0.free 1; have d2_0 := o4_0.cell 2; have e2_0 := o4_0.free 2; (try simp only [List.getElem?_toArray, List.getElem?_cons_zero, List.getElem?_cons_succ] at d0_0 d1_0 d2_0)
          have d0_1 := o4_1.cell 0; have e0_1 := o4_1.free 0; have d1_1 := o4_1.cell 1; have e1_1 := o4_1.free 1; have d2_1 := o4_1.cell 2; have e2_1 := o4_1.free 2; (try simp only [List.getElem?_toArray, List.getElem?_cons_zero, List.getElem?_cons_succ] at d0_1 d1_1 d2_1)
          have d0_2 := o4_2.cell 0; have e0_2 := o4_2.free 0; have d1_2 := o4_2.cell 1; have e1_2 := o4_2.free 1; have d2_2 := o4_2.cell 2; have e2_2 := o4_2.free 2; (try simp only [List.getElem?_toArray, List.getElem?_cons_zero, List.getElem?_cons_succ] at d0_2 d1_2 d2_2)
          go_wp2_with fail
          refine (e1 _).mono ?_
          rintro e wq5 ⟨rfl, hbq5⟩
          have b5 := b4.trans (hbq5.mono b4.size)
          clear d0_0 d1_0 d2_0 e0_0 e1_0 e2_0
          clear d0_1 d1_1 d2_1 e0_1 e1_1 e2_1
          clear d0_2 d1_2 d2_2 e0_2 e1_2 e2_2
          have o5_0 := o4_0.below hbq5 o4_0.lt
          clear o4_0
          have o5_1 := o4_1.below hbq5 o4_1.lt
          clear o4_1
          have o5_2 := o4_2.below hbq5 o4_2.lt
          clear o4_2
          have d0_0 := o5_0.cell 0; have e0_0 := o5_0.free 0; have d1_0 := o5_0.cell 1; have e1_0 := o5_0.free 1; have d2_0 := o5_0.cell 2; have e2_0 := o5_0.free 2; (try simp only [List.getElem?_toArray, List.getElem?_cons_zero, List.getElem?_cons_succ] at d0_0 d1_0 d2_0)
          have d0_1 := o5_1.cell 0; have e0_1 := o5_1.free 0; have d1_1 := o5_1.cell 1; have e1_1 := o5_1.free 1; have d2_1 := o5_1.cell 2; have e2_1 := o5_1.free 2; (try simp only [List.getElem?_toArray, List.getElem?_cons_zero, List.getElem?_cons_succ] at d0_1 d1_1 d2_1)
          have d0_2 := o5_2.cell 0; have e0_2 := o5_2.free 0; have d1_2 := o5_2.cell 1; have e1_2 := o5_2.free 1; have d2_2 := o5_2.cell 2; have e2_2 := o5_2.free 2; (try simp only [List.getElem?_toArray, List.getElem?_cons_zero, List.getElem?_cons_succ] at d0_2 d1_2 d2_2)
          have EE := h.step b5
          go_wp2_with fail
          refine (awake_any _ EE).mono ?_
          rintro e wq6 ⟨rfl, hbq6⟩
          have b6 := b5.trans (hbq6.mono b5.size)
          clear d0_0 d1_0 d2_0 e0_0 e1_0 e2_0
          clear d0_1 d1_1 d2_1 e0_1 e1_1 e2_1
          clear d0_2 d1_2 d2_2 e0_2 e1_2 e2_2
          have o6_0 := o5_0.below hbq6 o5_0.lt
          clear o5_0
          have o6_1 := o5_1.below hbq6 o5_1.lt
          clear o5_1
          have o6_2 := o5_2.below hbq6 o5_2.lt
          clear o5_2
          have d0_0 := o6_0.cell 0; have e0_0 := o6_0.free 0; have d1_0 := o6_0.cell 1; have e1_0 := o6_0.free 1; have d2_0 := o6_0.cell 2; have e2_0 := o6_0.free 2; (try simp only [List.getElem?_toArray, List.getElem?_cons_zero, List.getElem?_cons_succ] at d0_0 d1_0 d2_0)
          have d0_1 := o6_1.cell 0; have e0_1 := o6_1.free 0; have d1_1 := o6_1.cell 1; have e1_1 := o6_1.free 1; have d2_1 := o6_1.cell 2; have e2_1 := o6_1.free 2; (try simp only [List.getElem?_toArray, List.getElem?_cons_zero, List.getElem?_cons_succ] at d0_1 d1_1 d2_1)
          have d0_2 := o6_2.cell 0; have e0_2 := o6_2.free 0; have d1_2 := o6_2.cell 1; have e1_2 := o6_2.free 1; have d2_2 := o6_2.cell 2; have e2_2 := o6_2.free 2; (try simp only [List.getElem?_toArray, List.getElem?_cons_zero, List.getElem?_cons_succ] at d0_2 d1_2 d2_2)
          go_wp2
          go_ret
          exact ⟨rfl, b6⟩
        · have hkb : (k != k2) = true := by simpa using hkk
          clear hk
          go_wp2_with fail
          refine (l1 _).mono ?_
          rintro e wq4 ⟨rfl, hbq4⟩
          have b4 := b3.trans (hbq4.mono b3.size)
          clear d0_0 d1_0 d2_0 e0_0 e1_0 e2_0
          clear d0_1 d1_1 d2_1 e0_1 e1_1 e2_1
          clear d0_2 d1_2 d2_2 e0_2 e1_2 e2_2
          have o4_0 := o3_0.below hbq4 o3_0.lt
          clear o3_0
          have o4_1 := o3_1.below hbq4 o3_1.lt
          clear o3_1
          have o4_2 := o3_2.below hbq4 o3_2.lt
          clear o3_2
          have d0_0 := o4_0.cell 0; have e0_0 := o4_0.free 0; have d1_0 := o4_0.cell 1; have e1_0 := o4_0.free 1; have d2_0 := o4_0.cell 2; have e2_0 := o4_0.free 2; (try simp only [List.getElem?_toArray, List.getElem?_cons_zero, List.getElem?_cons_succ] at d0_0 d1_0 d2_0)
          have d0_1 := o4_1.cell 0; have e0_1 := o4_1.free 0; have d1_1 := o4_1.cell 1; have e1_1 := o4_1.free 1; have d2_1 := o4_1.cell 2; have e2_1 := o4_1.free 2; (try simp only [List.getElem?_toArray, List.getElem?_cons_zero, List.getElem?_cons_succ] at d0_1 d1_1 d2_1)
          have d0_2 := o4_2.cell 0; have e0_2 := o4_2.free 0; have d1_2 := o4_2.cell 1; have e1_2 := o4_2.free 1; have d2_2 := o4_2.cell 2; have e2_2 := o4_2.free 2; (try simp only [List.getElem?_toArray, List.getElem?_cons_zero, List.getElem?_cons_succ] at d0_2 d1_2 d2_2)
          go_wp2_with fail
          refine (e1 _).mono ?_
          rintro e wq5 ⟨rfl, hbq5⟩
          have b5 := b4.trans (hbq5.mono b4.size)
          clear d0_0 d1_0 d2_0 e0_0 e1_0 e2_0
          clear d0_1 d1_1 d2_1 e0_1 e1_1 e2_1
          clear d0_2 d1_2 d2_2 e0_2 e1_2 e2_2
          have o5_0 := o4_0.below hbq5 o4_0.lt
          clear o4_0
          have o5_1 := o4_1.below hbq5 o4_1.lt
          clear o4_1
          have o5_2 := o4_2.below hbq5 o4_2.lt
          clear o4_2
          have d0_0 := o5_0.cell 0; have e0_0 := o5_0.free 0; have d1_0 := o5_0.cell 1; have e1_0 := o5_0.free 1; have d2_0 := o5_0.cell 2; have e2_0 := o5_0.free 2; (try simp only [List.getElem?_toArray, List.getElem?_cons_zero, List.getElem?_cons_succ] at d0_0 d1_0 d2_0)
          have d0_1 := o5_1.cell 0; have e0_1 := o5_1.free 0; have d1_1 := o5_1.cell 1; have e1_1 := o5_1.free 1; have d2_1 := o5_1.cell 2; have e2_1 := o5_1.free 2; (try simp only [List.getElem?_toArray, List.getElem?_cons_zero, List.getElem?_cons_succ] at d0_1 d1_1 d2_1)
          have d0_2 := o5_2.cell 0; have e0_2 := o5_2.free 0; have d1_2 := o5_2.cell 1; have e1_2 := o5_2.free 1; have d2_2 := o5_2.cell 2; have e2_2 := o5_2.free 2; (try simp only [List.getElem?_toArray, List.getElem?_cons_zero, List.getElem?_cons_succ] at d0_2 d1_2 d2_2)
          have EE := h.step b5
          go_wp2_with fail
          refine (awake_any _ EE).mono ?_
          rintro e wq6 ⟨rfl, hbq6⟩
          have b6 := b5.trans (hbq6.mono b5.size)
          clear d0_0 d1_0 d2_0 e0_0 e1_0 e2_0
          clear d0_1 d1_1 d2_1 e0_1 e1_1 e2_1
          clear d0_2 d1_2 d2_2 e0_2 e1_2 e2_2
          have o6_0 := o5_0.below hbq6 o5_0.lt
          clear o5_0
          have o6_1 := o5_1.below hbq6 o5_1.lt
          clear o5_1
          have o6_2 := o5_2.below hbq6 o5_2.lt
          clear o5_2
          have d0_0 := o6_0.cell 0; have e0_0 := o6_0.free 0; have d1_0 := o6_0.cell 1; have e1_0 := o6_0.free 1; have d2_0 := o6_0.cell 2; have e2_0 := o6_0.free 2; (try simp only [List.getElem?_toArray, List.getElem?_cons_zero, List.getElem?_cons_succ] at d0_0 d1_0 d2_0)
          have d0_1 := o6_1.cell 0; have e0_1 := o6_1.free 0; have d1_1 := o6_1.cell 1; have e1_1 := o6_1.free 1; have d2_1 := o6_1.cell 2; have e2_1 := o6_1.free 2; (try simp only [List.getElem?_toArray, List.getElem?_cons_zero, List.getElem?_cons_succ] at d0_1 d1_1 d2_1)
          have d0_2 := o6_2.cell 0; have e0_2 := o6_2.free 0; have d1_2 := o6_2.cell 1; have e1_2 := o6_2.free 1; have d2_2 := o6_2.cell 2; have e2_2 := o6_2.free 2; (try simp only [List.getElem?_toArray, List.getElem?_cons_zero, List.getElem?_cons_succ] at d0_2 d1_2 d2_2)
          go_wp2
          go_ret
          exact ⟨rfl, b6⟩
      · obtain ⟨rfl, rfl, rfl⟩ := hK hk
        have hk1 : k = k2 := by rcases Decidable.em (k = k2) with h | h; exact h; exact absurd (.inl h) hk
        have hk2 : ¬ k = 0 := fun h => hk (.inr h)
        clear hN hK hk
        subst hk1
        have hk3 : (k == 0) = false := by simpa using hk2
        simp only [show ((-1 : Int) < 0) = True by simp, show ((-1 : Int) = 0) = False by simp, show ((0 : Int) < -1) = False by simp, if_true, if_false] at l1 e1 l2
        go_wp2_with fail
        refine (l1 _).mono ?_
        rintro e wq4 ⟨rfl, hbq4⟩
        have b4 := b3.trans (hbq4.mono b3.size)
        clear d0_0 d1_0 d2_0 e0_0 e1_0 e2_0
        clear d0_1 d1_1 d2_1 e0_1 e1_1 e2_1
        clear d0_2 d1_2 d2_2 e0_2 e1_2 e2_2
        have o4_0 := o3_0.below hbq4 o3_0.lt
        clear o3_0
        have o4_1 := o3_1.below hbq4 o3_1.lt
        clear o3_1
        have o4_2 := o3_2.below hbq4 o3_2.lt
        clear o3_2
        have d0_0 := o4_0.cell 0; have e0_0 := o4_0.free 0; have d1_0 := o4_0.cell 1; have e1_0 := o4_0.free 1; have d2_0 := o4_0.cell 2; have e2_0 := o4_0.free 2; (try simp only [List.getElem?_toArray, List.getElem?_cons_zero, List.getElem?_cons_succ] at d0_0 d1_0 d2_0)
        have d0_1 := o4_1.cell 0; have e0_1 := o4_1.free 0; have d1_1 := o4_1.cell 1; have e1_1 := o4_1.free 1; have d2_1 := o4_1.cell 2; have e2_1 := o4_1.free 2; (try simp only [List.getElem?_toArray, List.getElem?_cons_zero, List.getElem?_cons_succ] at d0_1 d1_1 d2_1)
        have d0_2 := o4_2.cell 0; have e0_2 := o4_2.free 0; have d1_2 := o4_2.cell 1; have e1_2 := o4_2.free 1; have d2_2 := o4_2.cell 2; have e2_2 := o4_2.free 2; (try simp only [List.getElem?_toArray, List.getElem?_cons_zero, List.getElem?_cons_succ] at d0_2 d1_2 d2_2)
        go_wp2_with fail
        refine (e1 _).mono ?_
        rintro e wq5 ⟨rfl, hbq5⟩
        have b5 := b4.trans (hbq5.mono b4.size)
        clear d0_0 d1_0 d2_0 e0_0 e1_0 e2_0
        clear d0_1 d1_1 d2_1 e0_1 e1_1 e2_1
        clear d0_2 d1_2 d2_2 e0_2 e1_2 e2_2
        have o5_0 := o4_0.below hbq5 o4_0.lt
        clear o4_0
        have o5_1 := o4_1.below hbq5 o4_1.lt
        clear o4_1
        have o5_2 := o4_2.below hbq5 o4_2.lt
        clear o4_2
        have d0_0 := o5_0.cell 0; have e0_0 := o5_0.free 0; have d1_0 := o5_0.cell 1; have e1_0 := o5_0.free 1; have d2_0 := o5_0.cell 2; have e2_0 := o5_0.free 2; (try simp only [List.getElem?_toArray, List.getElem?_cons_zero, List.getElem?_cons_succ] at d0_0 d1_0 d2_0)
        have d0_1 := o5_1.cell 0; have e0_1 := o5_1.free 0; have d1_1 := o5_1.cell 1; have e1_1 := o5_1.free 1; have d2_1 := o5_1.cell 2; have e2_1 := o5_1.free 2; (try simp only [List.getElem?_toArray, List.getElem?_cons_zero, List.getElem?_cons_succ] at d0_1 d1_1 d2_1)
        have d0_2 := o5_2.cell 0; have e0_2 := o5_2.free 0; have d1_2 := o5_2.cell 1; have e1_2 := o5_2.free 1; have d2_2 := o5_2.cell 2; have e2_2 := o5_2.free 2; (try simp only [List.getElem?_toArray, List.getElem?_cons_zero, List.getElem?_cons_succ] at d0_2 d1_2 d2_2)
        go_wp2_with fail
        refine (l2 _).mono ?_
        rintro e wq6 ⟨rfl, hbq6⟩
        have b6 := b5.trans (hbq6.mono b5.size)
        clear d0_0 d1_0 d2_0 e0_0 e1_0 e2_0
        clear d0_1 d1_1 d2_1 e0_1 e1_1 e2_1
        clear d0_2 d1_2 d2_2 e0_2 e1_2 e2_2
        have o6_0 := o5_0.below hbq6 o5_0.lt
        clear o5_0
        have o6_1 := o5_1.below hbq6 o5_1.lt
        clear o5_1
        have o6_2 := o5_2.below hbq6 o5_2.lt
        clear o5_2
        have d0_0 := o6_0.cell 0; have e0_0 := o6_0.free 0; have d1_0 := o6_0.cell 1; have e1_0 := o6_0.free 1; have d2_0 := o6_0.cell 2; have e2_0 := o6_0.free 2; (try simp only [List.getElem?_toArray, List.getElem?_cons_zero, List.getElem?_cons_succ] at d0_0 d1_0 d2_0)
        have d0_1 := o6_1.cell 0; have e0_1 := o6_1.free 0; have d1_1 := o6_1.cell 1; have e1_1 := o6_1.free 1; have d2_1 := o6_1.cell 2; have e2_1 := o6_1.free 2; (try simp only [List.getElem?_toArray, List.getElem?_cons_zero, List.getElem?_cons_succ] at d0_1 d1_1 d2_1)
        have d0_2 := o6_2.cell 0; have e0_2 := o6_2.free 0; have d1_2 := o6_2.cell 1; have e1_2 := o6_2.free 1; have d2_2 := o6_2.cell 2; have e2_2 := o6_2.free 2; (try simp only [List.getElem?_toArray, List.getElem?_cons_zero, List.getElem?_cons_succ] at d0_2 d1_2 d2_2)
        have EE := h.step b6
        go_wp2_with fail
        refine (awake_any _ EE).mono ?_
        rintro e wq7 ⟨rfl, hbq7⟩
        have b7 := b6.trans (hbq7.mono b6.size)
        clear d0_0 d1_0 d2_0 e0_0 e1_0 e2_0
        clear d0_1 d1_1 d2_1 e0_1 e1_1 e2_1
        clear d0_2 d1_2 d2_2 e0_2 e1_2 e2_2
        have o7_0 := o6_0.below hbq7 o6_0.lt
        clear o6_0
        have o7_1 := o6_1.below hbq7 o6_1.lt
        clear o6_1
        have o7_2 := o6_2.below hbq7 o6_2.lt
        clear o6_2
        have d0_0 := o7_0.cell 0; have e0_0 := o7_0.free 0; have d1_0 := o7_0.cell 1; have e1_0 := o7_0.free 1; have d2_0 := o7_0.cell 2; have e2_0 := o7_0.free 2; (try simp only [List.getElem?_toArray, List.getElem?_cons_zero, List.getElem?_cons_succ] at d0_0 d1_0 d2_0)
        have d0_1 := o7_1.cell 0; have e0_1 := o7_1.free 0; have d1_1 := o7_1.cell 1; have e1_1 := o7_1.free 1; have d2_1 := o7_1.cell 2; have e2_1 := o7_1.free 2; (try simp only [List.getElem?_toArray, List.getElem?_cons_zero, List.getElem?_cons_succ] at d0_1 d1_1 d2_1)
        have d0_2 := o7_2.cell 0; have e0_2 := o7_2.free 0; have d1_2 := o7_2.cell 1; have e1_2 := o7_2.free 1; have d2_2 := o7_2.cell 2; have e2_2 := o7_2.free 2; (try simp only [List.getElem?_toArray, List.getElem?_cons_zero, List.getElem?_cons_succ] at d0_2 d1_2 d2_2)
        go_wp2
        go_ret
        exact ⟨rfl, b7⟩
    · clear hZ
      have d0_0 := o1_0.cell 0; have e0_0 := o1_0.free 0; have d1_0 := o1_0.cell 1; have e1_0 := o1_0.free 1; have d2_0 := o1_0.cell 2; have e2_0 := o1_0.free 2; (try simp only [List.getElem?_toArray, List.getElem?_cons_zero, List.getElem?_cons_succ] at d0_0 d1_0 d2_0)
      have d0_1 := o1_1.cell 0; have e0_1 := o1_1.free 0; have d1_1 := o1_1.cell 1; have e1_1 := o1_1.free 1; have d2_1 := o1_1.cell 2; have e2_1 := o1_1.free 2; (try simp only [List.getElem?_toArray, List.getElem?_cons_zero, List.getElem?_cons_succ] at d0_1 d1_1 d2_1)
      have d0_2 := o1_2.cell 0; have e0_2 := o1_2.free 0; have d1_2 := o1_2.cell 1; have e1_2 := o1_2.free 1; have d2_2 := o1_2.cell 2; have e2_2 := o1_2.free 2; (try simp only [List.getElem?_toArray, List.getElem?_cons_zero, List.getElem?_cons_succ] at d0_2 d1_2 d2_2)
      go_wp2_with fail
      refine (c3 _).mono ?_
      rintro e wq2 ⟨rfl, hbq2⟩
      have b2 := b1.trans (hbq2.mono b1.size)
      clear d0_0 d1_0 d2_0 e0_0 e1_0 e2_0
      clear d0_1 d1_1 d2_1 e0_1 e1_1 e2_1
      clear d0_2 d1_2 d2_2 e0_2 e1_2 e2_2
      have o2_0 := o1_0.below hbq2 o1_0.lt
      clear o1_0
      have o2_1 := o1_1.below hbq2 o1_1.lt
      clear o1_1
      have o2_2 := o1_2.below hbq2 o1_2.lt
      clear o1_2
      have d0_0 := o2_0.cell 0; have e0_0 := o2_0.free 0; have d1_0 := o2_0.cell 1; have e1_0 := o2_0.free 1; have d2_0 := o2_0.cell 2; have e2_0 := o2_0.free 2; (try simp only [List.getElem?_toArray, List.getElem?_cons_zero, List.getElem?_cons_succ] at d0_0 d1_0 d2_0)
      have d0_1 := o2_1.cell 0; have e0_1 := o2_1.free 0; have d1_1 := o2_1.cell 1; have e1_1 := o2_1.free 1; have d2_1 := o2_1.cell 2; have e2_1 := o2_1.free 2; (try simp only [List.getElem?_toArray, List.getElem?_cons_zero, List.getElem?_cons_succ] at d0_1 d1_1 d2_1)
      have d0_2 := o2_2.cell 0; have e0_2 := o2_2.free 0; have d1_2 := o2_2.cell 1; have e1_2 := o2_2.free 1; have d2_2 := o2_2.cell 2; have e2_2 := o2_2.free 2; (try simp only [List.getElem?_toArray, List.getElem?_cons_zero, List.getElem?_cons_succ] at d0_2 d1_2 d2_2)
      by_cases hk : k ≠ k2 ∨ k = 0
      · obtain ⟨rfl, rfl⟩ := hN hk
        clear hN hK
        by_cases hkk : k = k2
        · subst hkk
          have hk0 : k = 0 := by rcases hk with h | h; exact absurd rfl h; exact h
          clear hk
          subst hk0
          go_wp2_with fail
          refine (l1 _).mono ?_
          rintro e wq3 ⟨rfl, hbq3⟩
          have b3 := b2.trans (hbq3.mono b2.size)
          clear d0_0 d1_0 d2_0 e0_0 e1_0 e2_0
          clear d0_1 d1_1 d2_1 e0_1 e1_1 e2_1
          clear d0_2 d1_2 d2_2 e0_2 e1_2 e2_2
          have o3_0 := o2_0.below hbq3 o2_0.lt
          clear o2_0
          have o3_1 := o2_1.below hbq3 o2_1.lt
          clear o2_1
          have o3_2 := o2_2.below hbq3 o2_2.lt
          clear o2_2
          have d0_0 := o3_0.cell 0; have e0_0 := o3_0.free 0; have d1_0 := o3_0.cell 1; have e1_0 := o3_0.free 1; have d2_0 := o3_0.cell 2; have e2_0 := o3_0.free 2; (try simp only [List.getElem?_toArray, List.getElem?_cons_zero, List.getElem?_cons_succ] at d0_0 d1_0 d2_0)
          have d0_1 := o3_1.cell 0; have e0_1 := o3_1.free 0; have d1_1 := o3_1.cell 1; have e1_1 := o3_1.free 1; have d2_1 := o3_1.cell 2; have e2_1 := o3_1.free 2; (try simp only [List.getElem?_toArray, List.getElem?_cons_zero, List.getElem?_cons_succ] at d0_1 d1_1 d2_1)
          have d0_2 := o3_2.cell 0; have e0_2 := o3_2.free 0; have d1_2 := o3_2.cell 1; have e1_2 := o3_2.free 1; have d2_2 := o3_2.cell 2; have e2_2 := o3_2.free 2; (try simp only [List.getElem?_toArray, List.getElem?_cons_zero, List.getElem?_cons_succ] at d0_2 d1_2 d2_2)
          go_wp2_with fail
          refine (e1 _).mono ?_
          rintro e wq4 ⟨rfl, hbq4⟩
          have b4 := b3.trans (hbq4.mono b3.size)
          clear d0_0 d1_0 d2_0 e0_0 e1_0 e2_0
          clear d0_1 d1_1 d2_1 e0_1 e1_1 e2_1
          clear d0_2 d1_2 d2_2 e0_2 e1_2 e2_2
          have o4_0 := o3_0.below hbq4 o3_0.lt
          clear o3_0
          have o4_1 := o3_1.below hbq4 o3_1.lt
          clear o3_1
          have o4_2 := o3_2.below hbq4 o3_2.lt
          clear o3_2
          have d0_0 := o4_0.cell 0; have e0_0 := o4_0.free 0; have d1_0 := o4_0.cell 1; have e1_0 := o4_0.free 1; have d2_0 := o4_0.cell 2; have e2_0 := o4_0.free 2; (try simp only [List.getElem?_toArray, List.getElem?_cons_zero, List.getElem?_cons_succ] at d0_0 d1_0 d2_0)
          have d0_1 := o4_1.cell 0; have e0_1 := o4_1.free 0; have d1_1 := o4_1.cell 1; have e1_1 := o4_1.free 1; have d2_1 := o4_1.cell 2; have e2_1 := o4_1.free 2; (try simp only [List.getElem?_toArray, List.getElem?_cons_zero, List.getElem?_cons_succ] at d0_1 d1_1 d2_1)
          have d0_2 := o4_2.cell 0; have e0_2 := o4_2.free 0; have d1_2 := o4_2.cell 1; have e1_2 := o4_2.free 1; have d2_2 := o4_2.cell 2; have e2_2 := o4_2.free 2; (try simp only [List.getElem?_toArray, List.getElem?_cons_zero, List.getElem?_cons_succ] at d0_2 d1_2 d2_2)
          have EE := h.step b4
          go_wp2_with fail
          refine (awake_any _ EE).mono ?_
          rintro e wq5 ⟨rfl, hbq5⟩
          have b5 := b4.trans (hbq5.mono b4.size)
          clear d0_0 d1_0 d2_0 e0_0 e1_0 e2_0
          clear d0_1 d1_1 d2_1 e0_1 e1_1 e2_1
          clear d0_2 d1_2 d2_2 e0_2 e1_2 e2_2
          have o5_0 := o4_0.below hbq5 o4_0.lt
          clear o4_0
          have o5_1 := o4_1.below hbq5 o4_1.lt
          clear o4_1
          have o5_2 := o4_2.below hbq5 o4_2.lt
          clear o4_2
          have d0_0 := o5_0.cell 0; have e0_0 := o5_0.free 0; have d1_0 := o5_0.cell 1; have e1_0 := o5_0.free 1; have d2_0 := o5_0.cell 2; have e2_0 := o5_0.free 2; (try simp only [List.getElem?_toArray, List.getElem?_cons_zero, List.getElem?_cons_succ] at d0_0 d1_0 d2_0)
          have d0_1 := o5_1.cell 0; have e0_1 := o5_1.free 0; have d1_1 := o5_1.cell 1; have e1_1 := o5_1.free 1; have d2_1 := o5_1.cell 2; have e2_1 := o5_1.free 2; (try simp only [List.getElem?_toArray, List.getElem?_cons_zero, List.getElem?_cons_succ] at d0_1 d1_1 d2_1)
          have d0_2 := o5_2.cell 0; have e0_2 := o5_2.free 0; have d1_2 := o5_2.cell 1; have e1_2 := o5_2.free 1; have d2_2 := o5_2.cell 2; have e2_2 := o5_2.free 2; (try simp only [List.getElem?_toArray, List.getElem?_cons_zero, List.getElem?_cons_succ] at d0_2 d1_2 d2_2)
          go_wp2
          go_ret
          exact ⟨rfl, b5⟩
        · have hkb : (k != k2) = true := by simpa using hkk
          clear hk
          go_wp2_with fail
          refine (l1 _).mono ?_
          rintro e wq3 ⟨rfl, hbq3⟩
          have b3 := b2.trans (hbq3.mono b2.size)
          clear d0_0 d1_0 d2_0 e0_0 e1_0 e2_0
          clear d0_1 d1_1 d2_1 e0_1 e1_1 e2_1
          clear d0_2 d1_2 d2_2 e0_2 e1_2 e2_2
          have o3_0 := o2_0.below hbq3 o2_0.lt
          clear o2_0
          have o3_1 := o2_1.below hbq3 o2_1.lt
          clear o2_1
          have o3_2 := o2_2.below hbq3 o2_2.lt
          clear o2_2
          have d0_0 := o3_0.cell 0; have e0_0 := o3_0.free 0; have d1_0 := o3_0.cell 1; have e1_0 := o3_0.free 1; have d2_0 := o3_0.cell 2; have e2_0 := o3_0.free 2; (try simp only [List.getElem?_toArray, List.getElem?_cons_zero, List.getElem?_cons_succ] at d0_0 d1_0 d2_0)
          have d0_1 := o3_1.cell 0; have e0_1 := o3_1.free 0; have d1_1 := o3_1.cell 1; have e1_1 := o3_1.free 1; have d2_1 := o3_1.cell 2; have e2_1 := o3_1.free 2; (try simp only [List.getElem?_toArray, List.getElem?_cons_zero, List.getElem?_cons_succ] at d0_1 d1_1 d2_1)
          have d0_2 := o3_2.cell 0; have e0_2 := o3_2.free 0; have d1_2 := o3_2.cell 1; have e1_2 := o3_2.free 1; have d2_2 := o3_2.cell 2; have e2_2 := o3_2.free 2; (try simp only [List.getElem?_toArray, List.getElem?_cons_zero, List.getElem?_cons_succ] at d0_2 d1_2 d2_2)
          go_wp2_with fail
          refine (e1 _).mono ?_
          rintro e wq4 ⟨rfl, hbq4⟩
          have b4 := b3.trans (hbq4.mono b3.size)
          clear d0_0 d1_0 d2_0 e0_0 e1_0 e2_0
          clear d0_1 d1_1 d2_1 e0_1 e1_1 e2_1
          clear d0_2 d1_2 d2_2 e0_2 e1_2 e2_2
          have o4_0 := o3_0.below hbq4 o3_0.lt
          clear o3_0
          have o4_1 := o3_1.below hbq4 o3_1.lt
          clear o3_1
          have o4_2 := o3_2.below hbq4 o3_2.lt
          clear o3_2
          have d0_0 := o4_0.cell 0; have e0_0 := o4_0.free 0; have d1_0 := o4_0.cell 1; have e1_0 := o4_0.free 1; have d2_0 := o4_0.cell 2; have e2_0 := o4_0.free 2; (try simp only [List.getElem?_toArray, List.getElem?_cons_zero, List.getElem?_cons_succ] at d0_0 d1_0 d2_0)
          have d0_1 := o4_1.cell 0; have e0_1 := o4_1.free 0; have d1_1 := o4_1.cell 1; have e1_1 := o4_1.free 1; have d2_1 := o4_1.cell 2; have e2_1 := o4_1.free 2; (try simp only [List.getElem?_toArray, List.getElem?_cons_zero, List.getElem?_cons_succ] at d0_1 d1_1 d2_1)
          have d0_2 := o4_2.cell 0; have e0_2 := o4_2.free 0; have d1_2 := o4_2.cell 1; have e1_2 := o4_2.free 1; have d2_2 := o4_2.cell 2; have e2_2 := o4_2.free 2; (try simp only [List.getElem?_toArray, List.getElem?_cons_zero, List.getElem?_cons_succ] at d0_2 d1_2 d2_2)
          have EE := h.step b4
          go_wp2_with fail
          refine (awake_any _ EE).mono ?_
          rintro e wq5 ⟨rfl, hbq5⟩
          have b5 := b4.trans (hbq5.mono b4.size)
          clear d0_0 d1_0 d2_0 e0_0 e1_0 e2_0
          clear d0_1 d1_1 d2_1 e0_1 e1_1 e2_1
          clear d0_2 d1_2 d2_2 e0_2 e1_2 e2_2
          have o5_0 := o4_0.below hbq5 o4_0.lt
          clear o4_0
          have o5_1 := o4_1.below hbq5 o4_1.lt
          clear o4_1
          have o5_2 := o4_2.below hbq5 o4_2.lt
          clear o4_2
          have d0_0 := o5_0.cell 0; have e0_0 := o5_0.free 0; have d1_0 := o5_0.cell 1; have e1_0 := o5_0.free 1; have d2_0 := o5_0.cell 2; have e2_0 := o5_0.free 2; (try simp only [List.getElem?_toArray, List.getElem?_cons_zero, List.getElem?_cons_succ] at d0_0 d1_0 d2_0)
          have d0_1 := o5_1.cell 0; have e0_1 := o5_1.free 0; have d1_1 := o5_1.cell 1; have e1_1 := o5_1.free 1; have d2_1 := o5_1.cell 2; have e2_1 := o5_1.free 2; (try simp only [List.getElem?_toArray, List.getElem?_cons_zero, List.getElem?_cons_succ] at d0_1 d1_1 d2_1)
          have d0_2 := o5_2.cell 0; have e0_2 := o5_2.free 0; have d1_2 := o5_2.cell 1; have e1_2 := o5_2.free 1; have d2_2 := o5_2.cell 2; have e2_2 := o5_2.free 2; (try simp only [List.getElem?_toArray, List.getElem?_cons_zero, List.getElem?_cons_succ] at d0_2 d1_2 d2_2)
          go_wp2
          go_ret
          exact ⟨rfl, b5⟩
      · obtain ⟨rfl, rfl, rfl⟩ := hK hk
        have hk1 : k = k2 := by rcases Decidable.em (k = k2) with h | h; exact h; exact absurd (.inl h) hk
        have hk2 : ¬ k = 0 := fun h => hk (.inr h)
        clear hN hK hk
        subst hk1
        have hk3 : (k == 0) = false := by simpa using hk2
        simp only [show ((-1 : Int) < 0) = True by simp, show ((-1 : Int) = 0) = False by simp, show ((0 : Int) < -1) = False by simp, if_true, if_false] at l1 e1 l2
        go_wp2_with fail
        refine (l1 _).mono ?_
        rintro e wq3 ⟨rfl, hbq3⟩
        have b3 := b2.trans (hbq3.mono b2.size)
        clear d0_0 d1_0 d2_0 e0_0 e1_0 e2_0
        clear d0_1 d1_1 d2_1 e0_1 e1_1 e2_1
        clear d0_2 d1_2 d2_2 e0_2 e1_2 e2_2
        have o3_0 := o2_0.below hbq3 o2_0.lt
        clear o2_0
        have o3_1 := o2_1.below hbq3 o2_1.lt
        clear o2_1
        have o3_2 := o2_2.below hbq3 o2_2.lt
        clear o2_2
        have d0_0 := o3_0.cell 0; have e0_0 := o3_0.free 0; have d1_0 := o3_0.cell 1; have e1_0 := o3_0.free 1; have d2_0 := o3_0.cell 2; have e2_0 := o3_0.free 2; (try simp only [List.getElem?_toArray, List.getElem?_cons_zero, List.getElem?_cons_succ] at d0_0 d1_0 d2_0)
        have d0_1 := o3_1.cell 0; have e0_1 := o3_1.free 0; have d1_1 := o3_1.cell 1; have e1_1 := o3_1.free 1; have d2_1 := o3_1.cell 2; have e2_1 := o3_1.free 2; (try simp only [List.getElem?_toArray, List.getElem?_cons_zero, List.getElem?_cons_succ] at d0_1 d1_1 d2_1)
        have d0_2 := o3_2.cell 0; have e0_2 := o3_2.free 0; have d1_2 := o3_2.cell 1; have e1_2 := o3_2.free 1; have d2_2 := o3_2.cell 2; have e2_2 := o3_2.free 2; (try simp only [List.getElem?_toArray, List.getElem?_cons_zero, List.getElem?_cons_succ] at d0_2 d1_2 d2_2)
        go_wp2_with fail
        refine (e1 _).mono ?_
        rintro e wq4 ⟨rfl, hbq4⟩
        have b4 := b3.trans (hbq4.mono b3.size)
        clear d0_0 d1_0 d2_0 e0_0 e1_0 e2_0
        clear d0_1 d1_1 d2_1 e0_1 e1_1 e2_1
        clear d0_2 d1_2 d2_2 e0_2 e1_2 e2_2
        have o4_0 := o3_0.below hbq4 o3_0.lt
        clear o3_0
        have o4_1 := o3_1.below hbq4 o3_1.lt
        clear o3_1
        have o4_2 := o3_2.below hbq4 o3_2.lt
        clear o3_2
        have d0_0 := o4_0.cell 0; have e0_0 := o4_0.free 0; have d1_0 := o4_0.cell 1; have e1_0 := o4_0.free 1; have d2_0 := o4_0.cell 2; have e2_0 := o4_0.free 2; (try simp only [List.getElem?_toArray, List.getElem?_cons_zero, List.getElem?_cons_succ] at d0_0 d1_0 d2_0)
        have d0_1 := o4_1.cell 0; have e0_1 := o4_1.free 0; have d1_1 := o4_1.cell 1; have e1_1 := o4_1.free 1; have d2_1 := o4_1.cell 2; have e2_1 := o4_1.free 2; (try simp only [List.getElem?_toArray, List.getElem?_cons_zero, List.getElem?_cons_succ] at d0_1 d1_1 d2_1)
        have d0_2 := o4_2.cell 0; have e0_2 := o4_2.free 0; have d1_2 := o4_2.cell 1; have e1_2 := o4_2.free 1; have d2_2 := o4_2.cell 2; have e2_2 := o4_2.free 2; (try simp only [List.getElem?_toArray, List.getElem?_cons_zero, List.getElem?_cons_succ] at d0_2 d1_2 d2_2)
        go_wp2_with fail
        refine (l2 _).mono ?_
        rintro e wq5 ⟨rfl, hbq5⟩
        have b5 := b4.trans (hbq5.mono b4.size)
        clear d0_0 d1_0 d2_0 e0_0 e1_0 e2_0
        clear d0_1 d1_1 d2_1 e0_1 e1_1 e2_1
        clear d0_2 d1_2 d2_2 e0_2 e1_2 e2_2
        have o5_0 := o4_0.below hbq5 o4_0.lt
        clear o4_0
        have o5_1 := o4_1.below hbq5 o4_1.lt
        clear o4_1
        have o5_2 := o4_2.below hbq5 o4_2.lt
        clear o4_2
        have d0_0 := o5_0.cell 0; have e0_0 := o5_0.free 0; have d1_0 := o5_0.cell 1; have e1_0 := o5_0.free 1; have d2_0 := o5_0.cell 2; have e2_0 := o5_0.free 2; (try simp only [List.getElem?_toArray, List.getElem?_cons_zero, List.getElem?_cons_succ] at d0_0 d1_0 d2_0)
        have d0_1 := o5_1.cell 0; have e0_1 := o5_1.free 0; have d1_1 := o5_1.cell 1; have e1_1 := o5_1.free 1; have d2_1 := o5_1.cell 2; have e2_1 := o5_1.free 2; (try simp only [List.getElem?_toArray, List.getElem?_cons_zero, List.getElem?_cons_succ] at d0_1 d1_1 d2_1)
        have d0_2 := o5_2.cell 0; have e0_2 := o5_2.free 0; have d1_2 := o5_2.cell 1; have e1_2 := o5_2.free 1; have d2_2 := o5_2.cell 2; have e2_2 := o5_2.free 2; (try simp only [List.getElem?_toArray, List.getElem?_cons_zero, List.getElem?_cons_succ] at d0_2 d1_2 d2_2)
        have EE := h.step b5
        go_wp2_with fail
        refine (awake_any _ EE).mono ?_
        rintro e wq6 ⟨rfl, hbq6⟩
        have b6 := b5.trans (hbq6.mono b5.size)
        clear d0_0 d1_0 d2_0 e0_0 e1_0 e2_0
        clear d0_1 d1_1 d2_1 e0_1 e1_1 e2_1
        clear d0_2 d1_2 d2_2 e0_2 e1_2 e2_2
        have o6_0 := o5_0.below hbq6 o5_0.lt
        clear o5_0
        have o6_1 := o5_1.below hbq6 o5_1.lt
        clear o5_1
        have o6_2 := o5_2.below hbq6 o5_2.lt
        clear o5_2
        have d0_0 := o6_0.cell 0; have e0_0 := o6_0.free 0; have d1_0 := o6_0.cell 1; have e1_0 := o6_0.free 1; have d2_0 := o6_0.cell 2; have e2_0 := o6_0.free 2; (try simp only [List.getElem?_toArray, List.getElem?_cons_zero, List.getElem?_cons_succ] at d0_0 d1_0 d2_0)
        have d0_1 := o6_1.cell 0; have e0_1 := o6_1.free 0; have d1_1 := o6_1.cell 1; have e1_1 := o6_1.free 1; have d2_1 := o6_1.cell 2; have e2_1 := o6_1.free 2; (try simp only [List.getElem?_toArray, List.getElem?_cons_zero, List.getElem?_cons_succ] at d0_1 d1_1 d2_1)
        have d0_2 := o6_2.cell 0; have e0_2 := o6_2.free 0; have d1_2 := o6_2.cell 1; have e1_2 := o6_2.free 1; have d2_2 := o6_2.cell 2; have e2_2 := o6_2.free 2; (try simp only [List.getElem?_toArray, List.getElem?_cons_zero, List.getElem?_cons_succ] at d0_2 d1_2 d2_2)
        go_wp2
        go_ret
        exact ⟨rfl, b6⟩
  · rw [show decide ((0 : Int) = 0) = true by decide] at q
    by_cases hy : Y ≤ 0
    · have hz := hZ (by decide) hy
      clear hZ
      have d0_0 := o1_0.cell 0; have e0_0 := o1_0.free 0; have d1_0 := o1_0.cell 1; have e1_0 := o1_0.free 1; have d2_0 := o1_0.cell 2; have e2_0 := o1_0.free 2; (try simp only [List.getElem?_toArray, List.getElem?_cons_zero, List.getElem?_cons_succ] at d0_0 d1_0 d2_0)
      have d0_1 := o1_1.cell 0; have e0_1 := o1_1.free 0; have d1_1 := o1_1.cell 1; have e1_1 := o1_1.free 1; have d2_1 := o1_1.cell 2; have e2_1 := o1_1.free 2; (try simp only [List.getElem?_toArray, List.getElem?_cons_zero, List.getElem?_cons_succ] at d0_1 d1_1 d2_1)
      have d0_2 := o1_2.cell 0; have e0_2 := o1_2.free 0; have d1_2 := o1_2.cell 1; have e1_2 := o1_2.free 1; have d2_2 := o1_2.cell 2; have e2_2 := o1_2.free 2; (try simp only [List.getElem?_toArray, List.getElem?_cons_zero, List.getElem?_cons_succ] at d0_2 d1_2 d2_2)
      go_wp2_with fail
      refine (c3 _).mono ?_
      rintro e wq2 ⟨rfl, hbq2⟩
      have b2 := b1.trans (hbq2.mono b1.size)
      clear d0_0 d1_0 d2_0 e0_0 e1_0 e2_0
      clear d0_1 d1_1 d2_1 e0_1 e1_1 e2_1
      clear d0_2 d1_2 d2_2 e0_2 e1_2 e2_2
      have o2_0 := o1_0.below hbq2 o1_0.lt
      clear o1_0
      have o2_1 := o1_1.below hbq2 o1_1.lt
      clear o1_1
      have o2_2 := o1_2.below hbq2 o1_2.lt
      clear o1_2
      have d0_0 := o2_0.cell 0; have e0_0 := o2_0.free 0; have d1_0 := o2_0.cell 1; have e1_0 := o2_0.free 1; have d2_0 := o2_0.cell 2; have e2_0 := o2_0.free 2; (try simp only [List.getElem?_toArray, List.getElem?_cons_zero, List.getElem?_cons_succ] at d0_0 d1_0 d2_0)
      have d0_1 := o2_1.cell 0; have e0_1 := o2_1.free 0; have d1_1 := o2_1.cell 1; have e1_1 := o2_1.free 1; have d2_1 := o2_1.cell 2; have e2_1 := o2_1.free 2; (try simp only [List.getElem?_toArray, List.getElem?_cons_zero, List.getElem?_cons_succ] at d0_1 d1_1 d2_1)
      have d0_2 := o2_2.cell 0; have e0_2 := o2_2.free 0; have d1_2 := o2_2.cell 1; have e1_2 := o2_2.free 1; have d2_2 := o2_2.cell 2; have e2_2 := o2_2.free 2; (try simp only [List.getElem?_toArray, List.getElem?_cons_zero, List.getElem?_cons_succ] at d0_2 d1_2 d2_2)
      go_wp2_with fail
      refine (c4 _).mono ?_
      rintro e wq3 ⟨rfl, hbq3⟩
      have b3 := b2.trans (hbq3.mono b2.size)
      clear d0_0 d1_0 d2_0 e0_0 e1_0 e2_0
      clear d0_1 d1_1 d2_1 e0_1 e1_1 e2_1
      clear d0_2 d1_2 d2_2 e0_2 e1_2 e2_2
      have o3_0 := o2_0.below hbq3 o2_0.lt
      clear o2_0
      have o3_1 := o2_1.below hbq3 o2_1.lt
      clear o2_1
      have o3_2 := o2_2.below hbq3 o2_2.lt
      clear o2_2
      have d0_0 := o3_0.cell 0; have e0_0 := o3_0.free 0; have d1_0 := o3_0.cell 1; have e1_0 := o3_0.free 1; have d2_0 := o3_0.cell 2; have e2_0 := o3_0.free 2; (try simp only [List.getElem?_toArray, List.getElem?_cons_zero, List.getElem?_cons_succ] at d0_0 d1_0 d2_0)
      have d0_1 := o3_1.cell 0; have e0_1 := o3_1.free 0; have d1_1 := o3_1.cell 1; have e1_1 := o3_1.free 1; have d2_1 := o3_1.cell 2; have e2_1 := o3_1.free 2; (try simp only [List.getElem?_toArray, List.getElem?_cons_zero, List.getElem?_cons_succ] at d0_1 d1_1 d2_1)
      have d0_2 := o3_2.cell 0; have e0_2 := o3_2.free 0; have d1_2 := o3_2.cell 1; have e1_2 := o3_2.free 1; have d2_2 := o3_2.cell 2; have e2_2 := o3_2.free 2; (try simp only [List.getElem?_toArray, List.getElem?_cons_zero, List.getElem?_cons_succ] at d0_2 d1_2 d2_2)
      by_cases hk : k ≠ k2 ∨ k = 0
      · obtain ⟨rfl, rfl⟩ := hN hk
        clear hN hK
        by_cases hkk : k = k2
        · subst hkk
          have hk0 : k = 0 := by rcases hk with h | h; exact absurd rfl h; exact h
          clear hk
          subst hk0
          go_wp2_with fail
          refine (l1 _).mono ?_
          rintro e wq4 ⟨rfl, hbq4⟩
          have b4 := b3.trans (hbq4.mono b3.size)
          clear d0_0 d1_0 d2_0 e0_0 e1_0 e2_0
          clear d0_1 d1_1 d2_1 e0_1 e1_1 e2_1
          clear d0_2 d1_2 d2_2 e0_2 e1_2 e2_2
          have o4_0 := o3_0.below hbq4 o3_0.lt
          clear o3_0
          have o4_1 := o3_1.below hbq4 o3_1.lt
          clear o3_1
          have o4_2 := o3_2.below hbq4 o3_2.lt
          clear o3_2
          have d0_0 := o4_0.cell 0; have e0_0 := o4_0.free 0; have d1_0 := o4_0.cell 1; have e1_0 := o4_0.free 1; have d2_0 := o4_0.cell 2; have e2_0 := o4_0.free 2; (try simp only [List.getElem?_toArray, List.getElem?_cons_zero, List.getElem?_cons_succ] at d0_0 d1_0 d2_0)
          have d0_1 := o4_1.cell 0; have e0_1 := o4_1.free 0; have d1_1 := o4_1.cell 1; have e1_1 := o4_1.free 1; have d2_1 := o4_1.cell 2; have e2_1 := o4_1.free 2; (try simp only [List.getElem?_toArray, List.getElem?_cons_zero, List.getElem?_cons_succ] at d0_1 d1_1 d2_1)
          have d0_2 := o4_2.cell 0; have e0_2 := o4_2.free 0; have d1_2 := o4_2.cell 1; have e1_2 := o4_2.free 1; have d2_2 := o4_2.cell 2; have e2_2 := o4_2.free 2; (try simp only [List.getElem?_toArray, List.getElem?_cons_zero, List.getElem?_cons_succ] at d0_2 d1_2 d2_2)
          go_wp2_with fail
          refine (e1 _).mono ?_
          rintro e wq5 ⟨rfl, hbq5⟩
          have b5 := b4.trans (hbq5.mono b4.size)
          clear d0_0 d1_0 d2_0 e0_0 e1_0 e2_0
          clear d0_1 d1_1 d2_1 e0_1 e1_1 e2_1
          clear d0_2 d1_2 d2_2 e0_2 e1_2 e2_2
          have o5_0 := o4_0.below hbq5 o4_0.lt
          clear o4_0
          have o5_1 := o4_1.below hbq5 o4_1.lt
          clear o4_1
          have o5_2 := o4_2.below hbq5 o4_2.lt
          clear o4_2
          have d0_0 := o5_0.cell 0; have e0_0 := o5_0.free 0; have d1_0 := o5_0.cell 1; have e1_0 := o5_0.free 1; have d2_0 := o5_0.cell 2; have e2_0 := o5_0.free 2; (try simp only [List.getElem?_toArray, List.getElem?_cons_zero, List.getElem?_cons_succ] at d0_0 d1_0 d2_0)
          have d0_1 := o5_1.cell 0; have e0_1 := o5_1.free 0; have d1_1 := o5_1.cell 1; have e1_1 := o5_1.free 1; have d2_1 := o5_1.cell 2; have e2_1 := o5_1.free 2; (try simp only [List.getElem?_toArray, List.getElem?_cons_zero, List.getElem?_cons_succ] at d0_1 d1_1 d2_1)
          have d0_2 := o5_2.cell 0; have e0_2 := o5_2.free 0; have d1_2 := o5_2.cell 1; have e1_2 := o5_2.free 1; have d2_2 := o5_2.cell 2; have e2_2 := o5_2.free 2; (try simp only [List.getElem?_toArray, List.getElem?_cons_zero, List.getElem?_cons_succ] at d0_2 d1_2 d2_2)
          have EE := h.step b5
          go_wp2_with fail
          refine (awake_any _ EE).mono ?_
          rintro e wq6 ⟨rfl, hbq6⟩
          have b6 := b5.trans (hbq6.mono b5.size)
          clear d0_0 d1_0 d2_0 e0_0 e1_0 e2_0
          clear d0_1 d1_1 d2_1 e0_1 e1_1 e2_1
          clear d0_2 d1_2 d2_2 e0_2 e1_2 e2_2
          have o6_0 := o5_0.below hbq6 o5_0.lt
          clear o5_0
          have o6_1 := o5_1.below hbq6 o5_1.lt
          clear o5_1
          have o6_2 := o5_2.below hbq6 o5_2.lt
          clear o5_2
          have d0_0 := o6_0.cell 0; have e0_0 := o6_0.free 0; have d1_0 := o6_0.cell 1; have e1_0 := o6_0.free 1; have d2_0 := o6_0.cell 2; have e2_0 := o6_0.free 2; (try simp only [List.getElem?_toArray, List.getElem?_cons_zero, List.getElem?_cons_succ] at d0_0 d1_0 d2_0)
          have d0_1 := o6_1.cell 0; have e0_1 := o6_1.free 0; have d1_1 := o6_1.cell 1; have e1_1 := o6_1.free 1; have d2_1 := o6_1.cell 2; have e2_1 := o6_1.free 2; (try simp only [List.getElem?_toArray, List.getElem?_cons_zero, List.getElem?_cons_succ] at d0_1 d1_1 d2_1)
          have d0_2 := o6_2.cell 0; have e0_2 := o6_2.free 0; have d1_2 := o6_2.cell 1; have e1_2 := o6_2.free 1; have d2_2 := o6_2.cell 2; have e2_2 := o6_2.free 2; (try simp only [List.getElem?_toArray, List.getElem?_cons_zero, List.getElem?_cons_succ] at d0_2 d1_2 d2_2)
          go_wp2
          go_ret
          exact ⟨rfl, b6⟩
        · have hkb : (k != k2) = true := by simpa using hkk
          clear hk
          go_wp2_with fail
          refine (l1 _).mono ?_
          rintro e wq4 ⟨rfl, hbq4⟩
          have b4 := b3.trans (hbq4.mono b3.size)
          clear d0_0 d1_0 d2_0 e0_0 e1_0 e2_0
          clear d0_1 d1_1 d2_1 e0_1 e1_1 e2_1
          clear d0_2 d1_2 d2_2 e0_2 e1_2 e2_2
          have o4_0 := o3_0.below hbq4 o3_0.lt
          clear o3_0
          have o4_1 := o3_1.below hbq4 o3_1.lt
          clear o3_1
          have o4_2 := o3_2.below hbq4 o3_2.lt
          clear o3_2
          have d0_0 := o4_0.cell 0; have e0_0 := o4_0.free 0; have d1_0 := o4_0.cell 1; have e1_0 := o4_0.free 1; have d2_0 := o4_0.cell 2; have e2_0 := o4_0.free 2; (try simp only [List.getElem?_toArray, List.getElem?_cons_zero, List.getElem?_cons_succ] at d0_0 d1_0 d2_0)
          have d0_1 := o4_1.cell 0; have e0_1 := o4_1.free 0; have d1_1 := o4_1.cell 1; have e1_1 := o4_1.free 1; have d2_1 := o4_1.cell 2; have e2_1 := o4_1.free 2; (try simp only [List.getElem?_toArray, List.getElem?_cons_zero, List.getElem?_cons_succ] at d0_1 d1_1 d2_1)
          have d0_2 := o4_2.cell 0; have e0_2 := o4_2.free 0; have d1_2 := o4_2.cell 1; have e1_2 := o4_2.free 1; have d2_2 := o4_2.cell 2; have e2_2 := o4_2.free 2; (try simp only [List.getElem?_toArray, List.getElem?_cons_zero, List.getElem?_cons_succ] at d0_2 d1_2 d2_2)
          go_wp2_with fail
          refine (e1 _).mono ?_
          rintro e wq5 ⟨rfl, hbq5⟩
          have b5 := b4.trans (hbq5.mono b4.size)
          clear d0_0 d1_0 d2_0 e0_0 e1_0 e2_0
          clear d0_1 d1_1 d2_1 e0_1 e1_1 e2_1
          clear d0_2 d1_2 d2_2 e0_2 e1_2 e2_2
          have o5_0 := o4_0.below hbq5 o4_0.lt
          clear o4_0
          have o5_1 := o4_1.below hbq5 o4_1.lt
          clear o4_1
          have o5_2 := o4_2.below hbq5 o4_2.lt
          clear o4_2
          have d0_0 := o5_0.cell 0; have e0_0 := o5_0.free 0; have d1_0 := o5_0.cell 1; have e1_0 := o5_0.free 1; have d2_0 := o5_0.cell 2; have e2_0 := o5_0.free 2; (try simp only [List.getElem?_toArray, List.getElem?_cons_zero, List.getElem?_cons_succ] at d0_0 d1_0 d2_0)
          have d0_1 := o5_1.cell 0; have e0_1 := o5_1.free 0; have d1_1 := o5_1.cell 1; have e1_1 := o5_1.free 1; have d2_1 := o5_1.cell 2; have e2_1 := o5_1.free 2; (try simp only [List.getElem?_toArray, List.getElem?_cons_zero, List.getElem?_cons_succ] at d0_1 d1_1 d2_1)
          have d0_2 := o5_2.cell 0; have e0_2 := o5_2.free 0; have d1_2 := o5_2.cell 1; have e1_2 := o5_2.free 1; have d2_2 := o5_2.cell 2; have e2_2 := o5_2.free 2; (try simp only [List.getElem?_toArray, List.getElem?_cons_zero, List.getElem?_cons_succ] at d0_2 d1_2 d2_2)
          have EE := h.step b5
          go_wp2_with fail
          refine (awake_any _ EE).mono ?_
          rintro e wq6 ⟨rfl, hbq6⟩
          have b6 := b5.trans (hbq6.mono b5.size)
          clear d0_0 d1_0 d2_0 e0_0 e1_0 e2_0
          clear d0_1 d1_1 d2_1 e0_1 e1_1 e2_1
          clear d0_2 d1_2 d2_2 e0_2 e1_2 e2_2
          have o6_0 := o5_0.below hbq6 o5_0.lt
          clear o5_0
          have o6_1 := o5_1.below hbq6 o5_1.lt
          clear o5_1
          have o6_2 := o5_2.below hbq6 o5_2.lt
          clear o5_2
          have d0_0 := o6_0.cell 0; have e0_0 := o6_0.free 0; have d1_0 := o6_0.cell 1; have e1_0 := o6_0.free 1; have d2_0 := o6_0.cell 2; have e2_0 := o6_0.free 2; (try simp only [List.getElem?_toArray, List.getElem?_cons_zero, List.getElem?_cons_succ] at d0_0 d1_0 d2_0)
          have d0_1 := o6_1.cell 0; have e0_1 := o6_1.free 0; have d1_1 := o6_1.cell 1; have e1_1 := o6_1.free 1; have d2_1 := o6_1.cell 2; have e2_1 := o6_1.free 2; (try simp only [List.getElem?_toArray, List.getElem?_cons_zero, List.getElem?_cons_succ] at d0_1 d1_1 d2_1)
          have d0_2 := o6_2.cell 0; have e0_2 := o6_2.free 0; have d1_2 := o6_2.cell 1; have e1_2 := o6_2.free 1; have d2_2 := o6_2.cell 2; have e2_2 := o6_2.free 2; (try simp only [List.getElem?_toArray, List.getElem?_cons_zero, List.getElem?_cons_succ] at d0_2 d1_2 d2_2)
          go_wp2
          go_ret
          exact ⟨rfl, b6⟩
      · obtain ⟨rfl, rfl, rfl⟩ := hK hk
        have hk1 : k = k2 := by rcases Decidable.em (k = k2) with h | h; exact h; exact absurd (.inl h) hk
        have hk2 : ¬ k = 0 := fun h => hk (.inr h)
        clear hN hK hk
        subst hk1
        have hk3 : (k == 0) = false := by simpa using hk2
        simp only [show ((0 : Int) < 0) = False by simp, if_true, if_false] at l1 e1 l2
        go_wp2_with fail
        refine (l1 _).mono ?_
        rintro e wq4 ⟨rfl, hbq4⟩
        have b4 := b3.trans (hbq4.mono b3.size)
        clear d0_0 d1_0 d2_0 e0_0 e1_0 e2_0
        clear d0_1 d1_1 d2_1 e0_1 e1_1 e2_1
        clear d0_2 d1_2 d2_2 e0_2 e1_2 e2_2
        have o4_0 := o3_0.below hbq4 o3_0.lt
        clear o3_0
        have o4_1 := o3_1.below hbq4 o3_1.lt
        clear o3_1
        have o4_2 := o3_2.below hbq4 o3_2.lt
        clear o3_2
        have d0_0 := o4_0.cell 0; have e0_0 := o4_0.free 0; have d1_0 := o4_0.cell 1; have e1_0 := o4_0.free 1; have d2_0 := o4_0.cell 2; have e2_0 := o4_0.free 2; (try simp only [List.getElem?_toArray, List.getElem?_cons_zero, List.getElem?_cons_succ] at d0_0 d1_0 d2_0)
        have d0_1 := o4_1.cell 0; have e0_1 := o4_1.free 0; have d1_1 := o4_1.cell 1; have e1_1 := o4_1.free 1; have d2_1 := o4_1.cell 2; have e2_1 := o4_1.free 2; (try simp only [List.getElem?_toArray, List.getElem?_cons_zero, List.getElem?_cons_succ] at d0_1 d1_1 d2_1)
        have d0_2 := o4_2.cell 0; have e0_2 := o4_2.free 0; have d1_2 := o4_2.cell 1; have e1_2 := o4_2.free 1; have d2_2 := o4_2.cell 2; have e2_2 := o4_2.free 2; (try simp only [List.getElem?_toArray, List.getElem?_cons_zero, List.getElem?_cons_succ] at d0_2 d1_2 d2_2)
        go_wp2_with fail
        refine (e1 _).mono ?_
        rintro e wq5 ⟨rfl, hbq5⟩
        have b5 := b4.trans (hbq5.mono b4.size)
        clear d0_0 d1_0 d2_0 e0_0 e1_0 e2_0
        clear d0_1 d1_1 d2_1 e0_1 e1_1 e2_1
        clear d0_2 d1_2 d2_2 e0_2 e1_2 e2_2
        have o5_0 := o4_0.below hbq5 o4_0.lt
        clear o4_0
        have o5_1 := o4_1.below hbq5 o4_1.lt
        clear o4_1
        have o5_2 := o4_2.below hbq5 o4_2.lt
        clear o4_2
        have d0_0 := o5_0.cell 0; have e0_0 := o5_0.free 0; have d1_0 := o5_0.cell 1; have e1_0 := o5_0.free 1; have d2_0 := o5_0.cell 2; have e2_0 := o5_0.free 2; (try simp only [List.getElem?_toArray, List.getElem?_cons_zero, List.getElem?_cons_succ] at d0_0 d1_0 d2_0)
        have d0_1 := o5_1.cell 0; have e0_1 := o5_1.free 0; have d1_1 := o5_1.cell 1; have e1_1 := o5_1.free 1; have d2_1 := o5_1.cell 2; have e2_1 := o5_1.free 2; (try simp only [List.getElem?_toArray, List.getElem?_cons_zero, List.getElem?_cons_succ] at d0_1 d1_1 d2_1)
        have d0_2 := o5_2.cell 0; have e0_2 := o5_2.free 0; have d1_2 := o5_2.cell 1; have e1_2 := o5_2.free 1; have d2_2 := o5_2.cell 2; have e2_2 := o5_2.free 2; (try simp only [List.getElem?_toArray, List.getElem?_cons_zero, List.getElem?_cons_succ] at d0_2 d1_2 d2_2)
        go_wp2_with fail
        refine (l2 _).mono ?_
        rintro e wq6 ⟨rfl, hbq6⟩
        have b6 := b5.trans (hbq6.mono b5.size)
        clear d0_0 d1_0 d2_0 e0_0 e1_0 e2_0
        clear d0_1 d1_1 d2_1 e0_1 e1_1 e2_1
        clear d0_2 d1_2 d2_2 e0_2 e1_2 e2_2
        have o6_0 := o5_0.below hbq6 o5_0.lt
        clear o5_0
        have o6_1 := o5_1.below hbq6 o5_1.lt
        clear o5_1
        have o6_2 := o5_2.below hbq6 o5_2.lt
        clear o5_2
        have d0_0 := o6_0.cell 0; have e0_0 := o6_0.free 0; have d1_0 := o6_0.cell 1; have e1_0 := o6_0.free 1; have d2_0 := o6_0.cell 2; have e2_0 := o6_0.free 2; (try simp only [List.getElem?_toArray, List.getElem?_cons_zero, List.getElem?_cons_succ] at d0_0 d1_0 d2_0)
        have d0_1 := o6_1.cell 0; have e0_1 := o6_1.free 0; have d1_1 := o6_1.cell 1; have e1_1 := o6_1.free 1; have d2_1 := o6_1.cell 2; have e2_1 := o6_1.free 2; (try simp only [List.getElem?_toArray, List.getElem?_cons_zero, List.getElem?_cons_succ] at d0_1 d1_1 d2_1)
        have d0_2 := o6_2.cell 0; have e0_2 := o6_2.free 0; have d1_2 := o6_2.cell 1; have e1_2 := o6_2.free 1; have d2_2 := o6_2.cell 2; have e2_2 := o6_2.free 2; (try simp only [List.getElem?_toArray, List.getElem?_cons_zero, List.getElem?_cons_succ] at d0_2 d1_2 d2_2)
        have EE := h.step b6
        go_wp2_with fail
        refine (awake_any _ EE).mono ?_
        rintro e wq7 ⟨rfl, hbq7⟩
        have b7 := b6.trans (hbq7.mono b6.size)
        clear d0_0 d1_0 d2_0 e0_0 e1_0 e2_0
        clear d0_1 d1_1 d2_1 e0_1 e1_1 e2_1
        clear d0_2 d1_2 d2_2 e0_2 e1_2 e2_2
        have o7_0 := o6_0.below hbq7 o6_0.lt
        clear o6_0
        have o7_1 := o6_1.below hbq7 o6_1.lt
        clear o6_1
        have o7_2 := o6_2.below hbq7 o6_2.lt
        clear o6_2
        have d0_0 := o7_0.cell 0; have e0_0 := o7_0.free 0; have d1_0 := o7_0.cell 1; have e1_0 := o7_0.free 1; have d2_0 := o7_0.cell 2; have e2_0 := o7_0.free 2; (try simp only [List.getElem?_toArray, List.getElem?_cons_zero, List.getElem?_cons_succ] at d0_0 d1_0 d2_0)
        have d0_1 := o7_1.cell 0; have e0_1 := o7_1.free 0; have d1_1 := o7_1.cell 1; have e1_1 := o7_1.free 1; have d2_1 := o7_1.cell 2; have e2_1 := o7_1.free 2; (try simp only [List.getElem?_toArray, List.getElem?_cons_zero, List.getElem?_cons_succ] at d0_1 d1_1 d2_1)
        have d0_2 := o7_2.cell 0; have e0_2 := o7_2.free 0; have d1_2 := o7_2.cell 1; have e1_2 := o7_2.free 1; have d2_2 := o7_2.cell 2; have e2_2 := o7_2.free 2; (try simp only [List.getElem?_toArray, List.getElem?_cons_zero, List.getElem?_cons_succ] at d0_2 d1_2 d2_2)
        go_wp2
        go_ret
        exact ⟨rfl, b7⟩
    · clear hZ
      have d0_0 := o1_0.cell 0; have e0_0 := o1_0.free 0; have d1_0 := o1_0.cell 1; have e1_0 := o1_0.free 1; have d2_0 := o1_0.cell 2; have e2_0 := o1_0.free 2; (try simp only [List.getElem?_toArray, List.getElem?_cons_zero, List.getElem?_cons_succ] at d0_0 d1_0 d2_0)
      have d0_1 := o1_1.cell 0; have e0_1 := o1_1.free 0; have d1_1 := o1_1.cell 1; have e1_1 := o1_1.free 1; have d2_1 := o1_1.cell 2; have e2_1 := o1_1.free 2; (try simp only [List.getElem?_toArray, List.getElem?_cons_zero, List.getElem?_cons_succ] at d0_1 d1_1 d2_1)
      have d0_2 := o1_2.cell 0; have e0_2 := o1_2.free 0; have d1_2 := o1_2.cell 1; have e1_2 := o1_2.free 1; have d2_2 := o1_2.cell 2; have e2_2 := o1_2.free 2; (try simp only [List.getElem?_toArray, List.getElem?_cons_zero, List.getElem?_cons_succ] at d0_2 d1_2 d2_2)
      go_wp2_with fail
      refine (c3 _).mono ?_
      rintro e wq2 ⟨rfl, hbq2⟩
      have b2 := b1.trans (hbq2.mono b1.size)
      clear d0_0 d1_0 d2_0 e0_0 e1_0 e2_0
      clear d0_1 d1_1 d2_1 e0_1 e1_1 e2_1
      clear d0_2 d1_2 d2_2 e0_2 e1_2 e2_2
      have o2_0 := o1_0.below hbq2 o1_0.lt
      clear o1_0
      have o2_1 := o1_1.below hbq2 o1_1.lt
      clear o1_1
      have o2_2 := o1_2.below hbq2 o1_2.lt
      clear o1_2
      have d0_0 := o2_0.cell 0; have e0_0 := o2_0.free 0; have d1_0 := o2_0.cell 1; have e1_0 := o2_0.free 1; have d2_0 := o2_0.cell 2; have e2_0 := o2_0.free 2; (try simp only [List.getElem?_toArray, List.getElem?_cons_zero, List.getElem?_cons_succ] at d0_0 d1_0 d2_0)
      have d0_1 := o2_1.cell 0; have e0_1 := o2_1.free 0; have d1_1 := o2_1.cell 1; have e1_1 := o2_1.free 1; have d2_1 := o2_1.cell 2; have e2_1 := o2_1.free 2; (try simp only [List.getElem?_toArray, List.getElem?_cons_zero, List.getElem?_cons_succ] at d0_1 d1_1 d2_1)
      have d0_2 := o2_2.cell 0; have e0_2 := o2_2.free 0; have d1_2 := o2_2.cell 1; have e1_2 := o2_2.free 1; have d2_2 := o2_2.cell 2; have e2_2 := o2_2.free 2; (try simp only [List.getElem?_toArray, List.getElem?_cons_zero, List.getElem?_cons_succ] at d0_2 d1_2 d2_2)
      by_cases hk : k ≠ k2 ∨ k = 0
      · obtain ⟨rfl, rfl⟩ := hN hk
        clear hN hK
        by_cases hkk : k = k2
        · subst hkk
          have hk0 : k = 0 := by rcases hk with h | h; exact absurd rfl h; exact h
          clear hk
          subst hk0
          go_wp2_with fail
          refine (l1 _).mono ?_
          rintro e wq3 ⟨rfl, hbq3⟩
          have b3 := b2.trans (hbq3.mono b2.size)
          clear d0_0 d1_0 d2_0 e0_0 e1_0 e2_0
          clear d0_1 d1_1 d2_1 e0_1 e1_1 e2_1
          clear d0_2 d1_2 d2_2 e0_2 e1_2 e2_2
          have o3_0 := o2_0.below hbq3 o2_0.lt
          clear o2_0
          have o3_1 := o2_1.below hbq3 o2_1.lt
          clear o2_1
          have o3_2 := o2_2.below hbq3 o2_2.lt
          clear o2_2
          have d0_0 := o3_0.cell 0; have e0_0 := o3_0.free 0; have d1_0 := o3_0.cell 1; have e1_0 := o3_0.free 1; have d2_0 := o3_0.cell 2; have e2_0 := o3_0.free 2; (try simp only [List.getElem?_toArray, List.getElem?_cons_zero, List.getElem?_cons_succ] at d0_0 d1_0 d2_0)
          have d0_1 := o3_1.cell 0; have e0_1 := o3_1.free 0; have d1_1 := o3_1.cell 1; have e1_1 := o3_1.free 1; have d2_1 := o3_1.cell 2; have e2_1 := o3_1.free 2; (try simp only [List.getElem?_toArray, List.getElem?_cons_zero, List.getElem?_cons_succ] at d0_1 d1_1 d2_1)
          have d0_2 := o3_2.cell 0; have e0_2 := o3_2.free 0; have d1_2 := o3_2.cell 1; have e1_2 := o3_2.free 1; have d2_2 := o3_2.cell 2; have e2_2 := o3_2.free 2; (try simp only [List.getElem?_toArray, List.getElem?_cons_zero, List.getElem?_cons_succ] at d0_2 d1_2 d2_2)
          go_wp2_with fail
          refine (e1 _).mono ?_
          rintro e wq4 ⟨rfl, hbq4⟩
          have b4 := b3.trans (hbq4.mono b3.size)
          clear d0_0 d1_0 d2_0 e0_0 e1_0 e2_0
          clear d0_1 d1_1 d2_1 e0_1 e1_1 e2_1
          clear d0_2 d1_2 d2_2 e0_2 e1_2 e2_2
          have o4_0 := o3_0.below hbq4 o3_0.lt
          clear o3_0
          have o4_1 := o3_1.below hbq4 o3_1.lt
          clear o3_1
          have o4_2 := o3_2.below hbq4 o3_2.lt
          clear o3_2
          have d0_0 := o4_0.cell 0; have e0_0 := o4_0.free 0; have d1_0 := o4_0.cell 1; have e1_0 := o4_0.free 1; have d2_0 := o4_0.cell 2; have e2_0 := o4_0.free 2; (try simp only [List.getElem?_toArray, List.getElem?_cons_zero, List.getElem?_cons_succ] at d0_0 d1_0 d2_0)
          have d0_1 := o4_1.cell 0; have e0_1 := o4_1.free 0; have d1_1 := o4_1.cell 1; have e1_1 := o4_1.free 1; have d2_1 := o4_1.cell 2; have e2_1 := o4_1.free 2; (try simp only [List.getElem?_toArray, List.getElem?_cons_zero, List.getElem?_cons_succ] at d0_1 d1_1 d2_1)
          have d0_2 := o4_2.cell 0; have e0_2 := o4_2.free 0; have d1_2 := o4_2.cell 1; have e1_2 := o4_2.free 1; have d2_2 := o4_2.cell 2; have e2_2 := o4_2.free 2; (try simp only [List.getElem?_toArray, List.getElem?_cons_zero, List.getElem?_cons_succ] at d0_2 d1_2 d2_2)
          have EE := h.step b4
          go_wp2_with fail
          refine (awake_any _ EE).mono ?_
          rintro e wq5 ⟨rfl, hbq5⟩
          have b5 := b4.trans (hbq5.mono b4.size)
          clear d0_0 d1_0 d2_0 e0_0 e1_0 e2_0
          clear d0_1 d1_1 d2_1 e0_1 e1_1 e2_1
          clear d0_2 d1_2 d2_2 e0_2 e1_2 e2_2
          have o5_0 := o4_0.below hbq5 o4_0.lt
          clear o4_0
          have o5_1 := o4_1.below hbq5 o4_1.lt
          clear o4_1
          have o5_2 := o4_2.below hbq5 o4_2.lt
          clear o4_2
          have d0_0 := o5_0.cell 0; have e0_0 := o5_0.free 0; have d1_0 := o5_0.cell 1; have e1_0 := o5_0.free 1; have d2_0 := o5_0.cell 2; have e2_0 := o5_0.free 2; (try simp only [List.getElem?_toArray, List.getElem?_cons_zero, List.getElem?_cons_succ] at d0_0 d1_0 d2_0)
          have d0_1 := o5_1.cell 0; have e0_1 := o5_1.free 0; have d1_1 := o5_1.cell 1; have e1_1 := o5_1.free 1; have d2_1 := o5_1.cell 2; have e2_1 := o5_1.free 2; (try simp only [List.getElem?_toArray, List.getElem?_cons_zero, List.getElem?_cons_succ] at d0_1 d1_1 d2_1)
          have d0_2 := o5_2.cell 0; have e0_2 := o5_2.free 0; have d1_2 := o5_2.cell 1; have e1_2 := o5_2.free 1; have d2_2 := o5_2.cell 2; have e2_2 := o5_2.free 2; (try simp only [List.getElem?_toArray, List.getElem?_cons_zero, List.getElem?_cons_succ] at d0_2 d1_2 d2_2)
          go_wp2
          go_ret
          exact ⟨rfl, b5⟩
        · have hkb : (k != k2) = true := by simpa using hkk
          clear hk
          go_wp2_with fail
          refine (l1 _).mono ?_
          rintro e wq3 ⟨rfl, hbq3⟩
          have b3 := b2.trans (hbq3.mono b2.size)
          clear d0_0 d1_0 d2_0 e0_0 e1_0 e2_0
          clear d0_1 d1_1 d2_1 e0_1 e1_1 e2_1
          clear d0_2 d1_2 d2_2 e0_2 e1_2 e2_2
          have o3_0 := o2_0.below hbq3 o2_0.lt
          clear o2_0
          have o3_1 := o2_1.below hbq3 o2_1.lt
          clear o2_1
          have o3_2 := o2_2.below hbq3 o2_2.lt
          clear o2_2
          have d0_0 := o3_0.cell 0; have e0_0 := o3_0.free 0; have d1_0 := o3_0.cell 1; have e1_0 := o3_0.free 1; have d2_0 := o3_0.cell 2; have e2_0 := o3_0.free 2; (try simp only [List.getElem?_toArray, List.getElem?_cons_zero, List.getElem?_cons_succ] at d0_0 d1_0 d2_0)
          have d0_1 := o3_1.cell 0; have e0_1 := o3_1.free 0; have d1_1 := o3_1.cell 1; have e1_1 := o3_1.free 1; have d2_1 := o3_1.cell 2; have e2_1 := o3_1.free 2; (try simp only [List.getElem?_toArray, List.getElem?_cons_zero, List.getElem?_cons_succ] at d0_1 d1_1 d2_1)
          have d0_2 := o3_2.cell 0; have e0_2 := o3_2.free 0; have d1_2 := o3_2.cell 1; have e1_2 := o3_2.free 1; have d2_2 := o3_2.cell 2; have e2_2 := o3_2.free 2; (try simp only [List.getElem?_toArray, List.getElem?_cons_zero, List.getElem?_cons_succ] at d0_2 d1_2 d2_2)
          go_wp2_with fail
          refine (e1 _).mono ?_
          rintro e wq4 ⟨rfl, hbq4⟩
          have b4 := b3.trans (hbq4.mono b3.size)
          clear d0_0 d1_0 d2_0 e0_0 e1_0 e2_0
          clear d0_1 d1_1 d2_1 e0_1 e1_1 e2_1
          clear d0_2 d1_2 d2_2 e0_2 e1_2 e2_2
          have o4_0 := o3_0.below hbq4 o3_0.lt
          clear o3_0
          have o4_1 := o3_1.below hbq4 o3_1.lt
          clear o3_1
          have o4_2 := o3_2.below hbq4 o3_2.lt
          clear o3_2
          have d0_0 := o4_0.cell 0; have e0_0 := o4_0.free 0; have d1_0 := o4_0.cell 1; have e1_0 := o4_0.free 1; have d2_0 := o4_0.cell 2; have e2_0 := o4_0.free 2; (try simp only [List.getElem?_toArray, List.getElem?_cons_zero, List.getElem?_cons_succ] at d0_0 d1_0 d2_0)
          have d0_1 := o4_1.cell 0; have e0_1 := o4_1.free 0; have d1_1 := o4_1.cell 1; have e1_1 := o4_1.free 1; have d2_1 := o4_1.cell 2; have e2_1 := o4_1.free 2; (try simp only [List.getElem?_toArray, List.getElem?_cons_zero, List.getElem?_cons_succ] at d0_1 d1_1 d2_1)
          have d0_2 := o4_2.cell 0; have e0_2 := o4_2.free 0; have d1_2 := o4_2.cell 1; have e1_2 := o4_2.free 1; have d2_2 := o4_2.cell 2; have e2_2 := o4_2.free 2; (try simp only [List.getElem?_toArray, List.getElem?_cons_zero, List.getElem?_cons_succ] at d0_2 d1_2 d2_2)
          have EE := h.step b4
          go_wp2_with fail
          refine (awake_any _ EE).mono ?_
          rintro e wq5 ⟨rfl, hbq5⟩
          have b5 := b4.trans (hbq5.mono b4.size)
          clear d0_0 d1_0 d2_0 e0_0 e1_0 e2_0
          clear d0_1 d1_1 d2_1 e0_1 e1_1 e2_1
          clear d0_2 d1_2 d2_2 e0_2 e1_2 e2_2
          have o5_0 := o4_0.below hbq5 o4_0.lt
          clear o4_0
          have o5_1 := o4_1.below hbq5 o4_1.lt
          clear o4_1
          have o5_2 := o4_2.below hbq5 o4_2.lt
          clear o4_2
          have d0_0 := o5_0.cell 0; have e0_0 := o5_0.free 0; have d1_0 := o5_0.cell 1; have e1_0 := o5_0.free 1; have d2_0 := o5_0.cell 2; have e2_0 := o5_0.free 2; (try simp only [List.getElem?_toArray, List.getElem?_cons_zero, List.getElem?_cons_succ] at d0_0 d1_0 d2_0)
          have d0_1 := o5_1.cell 0; have e0_1 := o5_1.free 0; have d1_1 := o5_1.cell 1; have e1_1 := o5_1.free 1; have d2_1 := o5_1.cell 2; have e2_1 := o5_1.free 2; (try simp only [List.getElem?_toArray, List.getElem?_cons_zero, List.getElem?_cons_succ] at d0_1 d1_1 d2_1)
          have d0_2 := o5_2.cell 0; have e0_2 := o5_2.free 0; have d1_2 := o5_2.cell 1; have e1_2 := o5_2.free 1; have d2_2 := o5_2.cell 2; have e2_2 := o5_2.free 2; (try simp only [List.getElem?_toArray, List.getElem?_cons_zero, List.getElem?_cons_succ] at d0_2 d1_2 d2_2)
          go_wp2
          go_ret
          exact ⟨rfl, b5⟩
      · obtain ⟨rfl, rfl, rfl⟩ := hK hk
        have hk1 : k = k2 := by rcases Decidable.em (k = k2) with h | h; exact h; exact absurd (.inl h) hk
        have hk2 : ¬ k = 0 := fun h => hk (.inr h)
        clear hN hK hk
        subst hk1
        have hk3 : (k == 0) = false := by simpa using hk2
        simp only [show ((0 : Int) < 0) = False by simp, if_true, if_false] at l1 e1 l2
        go_wp2_with fail
        refine (l1 _).mono ?_
        rintro e wq3 ⟨rfl, hbq3⟩
        have b3 := b2.trans (hbq3.mono b2.size)
        clear d0_0 d1_0 d2_0 e0_0 e1_0 e2_0
        clear d0_1 d1_1 d2_1 e0_1 e1_1 e2_1
        clear d0_2 d1_2 d2_2 e0_2 e1_2 e2_2
        have o3_0 := o2_0.below hbq3 o2_0.lt
        clear o2_0
        have o3_1 := o2_1.below hbq3 o2_1.lt
        clear o2_1
        have o3_2 := o2_2.below hbq3 o2_2.lt
        clear o2_2
        have d0_0 := o3_0.cell 0; have e0_0 := o3_0.free 0; have d1_0 := o3_0.cell 1; have e1_0 := o3_0.free 1; have d2_0 := o3_0.cell 2; have e2_0 := o3_0.free 2; (try simp only [List.getElem?_toArray, List.getElem?_cons_zero, List.getElem?_cons_succ] at d0_0 d1_0 d2_0)
        have d0_1 := o3_1.cell 0; have e0_1 := o3_1.free 0; have d1_1 := o3_1.cell 1; have e1_1 := o3_1.free 1; have d2_1 := o3_1.cell 2; have e2_1 := o3_1.free 2; (try simp only [List.getElem?_toArray, List.getElem?_cons_zero, List.getElem?_cons_succ] at d0_1 d1_1 d2_1)
        have d0_2 := o3_2.cell 0; have e0_2 := o3_2.free 0; have d1_2 := o3_2.cell 1; have e1_2 := o3_2.free 1; have d2_2 := o3_2.cell 2; have e2_2 := o3_2.free 2; (try simp only [List.getElem?_toArray, List.getElem?_cons_zero, List.getElem?_cons_succ] at d0_2 d1_2 d2_2)
        go_wp2_with fail
        refine (e1 _).mono ?_
        rintro e wq4 ⟨rfl, hbq4⟩
        have b4 := b3.trans (hbq4.mono b3.size)
        clear d0_0 d1_0 d2_0 e0_0 e1_0 e2_0
        clear d0_1 d1_1 d2_1 e0_1 e1_1 e2_1
        clear d0_2 d1_2 d2_2 e0_2 e1_2 e2_2
        have o4_0 := o3_0.below hbq4 o3_0.lt
        clear o3_0
        have o4_1 := o3_1.below hbq4 o3_1.lt
        clear o3_1
        have o4_2 := o3_2.below hbq4 o3_2.lt
        clear o3_2
        have d0_0 := o4_0.cell 0; have e0_0 := o4_0.free 0; have d1_0 := o4_0.cell 1; have e1_0 := o4_0.free 1; have d2_0 := o4_0.cell 2; have e2_0 := o4_0.free 2; (try simp only [List.getElem?_toArray, List.getElem?_cons_zero, List.getElem?_cons_succ] at d0_0 d1_0 d2_0)
        have d0_1 := o4_1.cell 0; have e0_1 := o4_1.free 0; have d1_1 := o4_1.cell 1; have e1_1 := o4_1.free 1; have d2_1 := o4_1.cell 2; have e2_1 := o4_1.free 2; (try simp only [List.getElem?_toArray, List.getElem?_cons_zero, List.getElem?_cons_succ] at d0_1 d1_1 d2_1)
        have d0_2 := o4_2.cell 0; have e0_2 := o4_2.free 0; have d1_2 := o4_2.cell 1; have e1_2 := o4_2.free 1; have d2_2 := o4_2.cell 2; have e2_2 := o4_2.free 2; (try simp only [List.getElem?_toArray, List.getElem?_cons_zero, List.getElem?_cons_succ] at d0_2 d1_2 d2_2)
        go_wp2_with fail
        refine (l2 _).mono ?_
        rintro e wq5 ⟨rfl, hbq5⟩
        have b5 := b4.trans (hbq5.mono b4.size)
        clear d0_0 d1_0 d2_0 e0_0 e1_0 e2_0
        clear d0_1 d1_1 d2_1 e0_1 e1_1 e2_1
        clear d0_2 d1_2 d2_2 e0_2 e1_2 e2_2
        have o5_0 := o4_0.below hbq5 o4_0.lt
        clear o4_0
        have o5_1 := o4_1.below hbq5 o4_1.lt
        clear o4_1
        have o5_2 := o4_2.below hbq5 o4_2.lt
        clear o4_2
        have d0_0 := o5_0.cell 0; have e0_0 := o5_0.free 0; have d1_0 := o5_0.cell 1; have e1_0 := o5_0.free 1; have d2_0 := o5_0.cell 2; have e2_0 := o5_0.free 2; (try simp only [List.getElem?_toArray, List.getElem?_cons_zero, List.getElem?_cons_succ] at d0_0 d1_0 d2_0)
        have d0_1 := o5_1.cell 0; have e0_1 := o5_1.free 0; have d1_1 := o5_1.cell 1; have e1_1 := o5_1.free 1; have d2_1 := o5_1.cell 2; have e2_1 := o5_1.free 2; (try simp only [List.getElem?_toArray, List.getElem?_cons_zero, List.getElem?_cons_succ] at d0_1 d1_1 d2_1)
        have d0_2 := o5_2.cell 0; have e0_2 := o5_2.free 0; have d1_2 := o5_2.cell 1; have e1_2 := o5_2.free 1; have d2_2 := o5_2.cell 2; have e2_2 := o5_2.free 2; (try simp only [List.getElem?_toArray, List.getElem?_cons_zero, List.getElem?_cons_succ] at d0_2 d1_2 d2_2)
        have EE := h.step b5
        go_wp2_with fail
        refine (awake_any _ EE).mono ?_
        rintro e wq6 ⟨rfl, hbq6⟩
        have b6 := b5.trans (hbq6.mono b5.size)
        clear d0_0 d1_0 d2_0 e0_0 e1_0 e2_0
        clear d0_1 d1_1 d2_1 e0_1 e1_1 e2_1
        clear d0_2 d1_2 d2_2 e0_2 e1_2 e2_2
        have o6_0 := o5_0.below hbq6 o5_0.lt
        clear o5_0
        have o6_1 := o5_1.below hbq6 o5_1.lt
        clear o5_1
        have o6_2 := o5_2.below hbq6 o5_2.lt
        clear o5_2
        have d0_0 := o6_0.cell 0; have e0_0 := o6_0.free 0; have d1_0 := o6_0.cell 1; have e1_0 := o6_0.free 1; have d2_0 := o6_0.cell 2; have e2_0 := o6_0.free 2; (try simp only [List.getElem?_toArray, List.getElem?_cons_zero, List.getElem?_cons_succ] at d0_0 d1_0 d2_0)
        have d0_1 := o6_1.cell 0; have e0_1 := o6_1.free 0; have d1_1 := o6_1.cell 1; have e1_1 := o6_1.free 1; have d2_1 := o6_1.cell 2; have e2_1 := o6_1.free 2; (try simp only [List.getElem?_toArray, List.getElem?_cons_zero, List.getElem?_cons_succ] at d0_1 d1_1 d2_1)
        have d0_2 := o6_2.cell 0; have e0_2 := o6_2.free 0; have d1_2 := o6_2.cell 1; have e1_2 := o6_2.free 1; have d2_2 := o6_2.cell 2; have e2_2 := o6_2.free 2; (try simp only [List.getElem?_toArray, List.getElem?_cons_zero, List.getElem?_cons_succ] at d0_2 d1_2 d2_2)
        go_wp2
        go_ret
        exact ⟨rfl, b6⟩
  · rw [show decide ((1 : Int) = 0) = false by decide] at q
    clear hZ
    have d0_0 := o1_0.cell 0; have e0_0 := o1_0.free 0; have d1_0 := o1_0.cell 1; have e1_0 := o1_0.free 1; have d2_0 := o1_0.cell 2; have e2_0 := o1_0.free 2; (try simp only [List.getElem?_toArray, List.getElem?_cons_zero, List.getElem?_cons_succ] at d0_0 d1_0 d2_0)
    have d0_1 := o1_1.cell 0; have e0_1 := o1_1.free 0; have d1_1 := o1_1.cell 1; have e1_1 := o1_1.free 1; have d2_1 := o1_1.cell 2; have e2_1 := o1_1.free 2; (try simp only [List.getElem?_toArray, List.getElem?_cons_zero, List.getElem?_cons_succ] at d0_1 d1_1 d2_1)
    have d0_2 := o1_2.cell 0; have e0_2 := o1_2.free 0; have d1_2 := o1_2.cell 1; have e1_2 := o1_2.free 1; have d2_2 := o1_2.cell 2; have e2_2 := o1_2.free 2; (try simp only [List.getElem?_toArray, List.getElem?_cons_zero, List.getElem?_cons_succ] at d0_2 d1_2 d2_2)
    go_wp2_with fail
    refine (c3 _).mono ?_
    rintro e wq2 ⟨rfl, hbq2⟩
    have b2 := b1.trans (hbq2.mono b1.size)
    clear d0_0 d1_0 d2_0 e0_0 e1_0 e2_0
    clear d0_1 d1_1 d2_1 e0_1 e1_1 e2_1
    clear d0_2 d1_2 d2_2 e0_2 e1_2 e2_2
    have o2_0 := o1_0.below hbq2 o1_0.lt
    clear o1_0
    have o2_1 := o1_1.below hbq2 o1_1.lt
    clear o1_1
    have o2_2 := o1_2.below hbq2 o1_2.lt
    clear o1_2
    have d0_0 := o2_0.cell 0; have e0_0 := o2_0.free 0; have d1_0 := o2_0.cell 1; have e1_0 := o2_0.free 1; have d2_0 := o2_0.cell 2; have e2_0 := o2_0.free 2; (try simp only [List.getElem?_toArray, List.getElem?_cons_zero, List.getElem?_cons_succ] at d0_0 d1_0 d2_0)
    have d0_1 := o2_1.cell 0; have e0_1 := o2_1.free 0; have d1_1 := o2_1.cell 1; have e1_1 := o2_1.free 1; have d2_1 := o2_1.cell 2; have e2_1 := o2_1.free 2; (try simp only [List.getElem?_toArray, List.getElem?_cons_zero, List.getElem?_cons_succ] at d0_1 d1_1 d2_1)
    have d0_2 := o2_2.cell 0; have e0_2 := o2_2.free 0; have d1_2 := o2_2.cell 1; have e1_2 := o2_2.free 1; have d2_2 := o2_2.cell 2; have e2_2 := o2_2.free 2; (try simp only [List.getElem?_toArray, List.getElem?_cons_zero, List.getElem?_cons_succ] at d0_2 d1_2 d2_2)
    by_cases hk : k ≠ k2 ∨ k = 0
    · obtain ⟨rfl, rfl⟩ := hN hk
      clear hN hK
      by_cases hkk : k = k2
      · subst hkk
        have hk0 : k = 0 := by rcases hk with h | h; exact absurd rfl h; exact h
        clear hk
        subst hk0
        go_wp2_with fail
        refine (l1 _).mono ?_
        rintro e wq3 ⟨rfl, hbq3⟩
        have b3 := b2.trans (hbq3.mono b2.size)
        clear d0_0 d1_0 d2_0 e0_0 e1_0 e2_0
        clear d0_1 d1_1 d2_1 e0_1 e1_1 e2_1
        clear d0_2 d1_2 d2_2 e0_2 e1_2 e2_2
        have o3_0 := o2_0.below hbq3 o2_0.lt
        clear o2_0
        have o3_1 := o2_1.below hbq3 o2_1.lt
        clear o2_1
        have o3_2 := o2_2.below hbq3 o2_2.lt
        clear o2_2
        have d0_0 := o3_0.cell 0; have e0_0 := o3_0.free 0; have d1_0 := o3_0.cell 1; have e1_0 := o3_0.free 1; have d2_0 := o3_0.cell 2; have e2_0 := o3_0.free 2; (try simp only [List.getElem?_toArray, List.getElem?_cons_zero, List.getElem?_cons_succ] at d0_0 d1_0 d2_0)
        have d0_1 := o3_1.cell 0; have e0_1 := o3_1.free 0; have d1_1 := o3_1.cell 1; have e1_1 := o3_1.free 1; have d2_1 := o3_1.cell 2; have e2_1 := o3_1.free 2; (try simp only [List.getElem?_toArray, List.getElem?_cons_zero, List.getElem?_cons_succ] at d0_1 d1_1 d2_1)
        have d0_2 := o3_2.cell 0; have e0_2 := o3_2.free 0; have d1_2 := o3_2.cell 1; have e1_2 := o3_2.free 1; have d2_2 := o3_2.cell 2; have e2_2 := o3_2.free 2; (try simp only [List.getElem?_toArray, List.getElem?_cons_zero, List.getElem?_cons_succ] at d0_2 d1_2 d2_2)
        go_wp2_with fail
        refine (e1 _).mono ?_
        rintro e wq4 ⟨rfl, hbq4⟩
        have b4 := b3.trans (hbq4.mono b3.size)
        clear d0_0 d1_0 d2_0 e0_0 e1_0 e2_0
        clear d0_1 d1_1 d2_1 e0_1 e1_1 e2_1
        clear d0_2 d1_2 d2_2 e0_2 e1_2 e2_2
        have o4_0 := o3_0.below hbq4 o3_0.lt
        clear o3_0
        have o4_1 := o3_1.below hbq4 o3_1.lt
        clear o3_1
        have o4_2 := o3_2.below hbq4 o3_2.lt
        clear o3_2
        have d0_0 := o4_0.cell 0; have e0_0 := o4_0.free 0; have d1_0 := o4_0.cell 1; have e1_0 := o4_0.free 1; have d2_0 := o4_0.cell 2; have e2_0 := o4_0.free 2; (try simp only [List.getElem?_toArray, List.getElem?_cons_zero, List.getElem?_cons_succ] at d0_0 d1_0 d2_0)
        have d0_1 := o4_1.cell 0; have e0_1 := o4_1.free 0; have d1_1 := o4_1.cell 1; have e1_1 := o4_1.free 1; have d2_1 := o4_1.cell 2; have e2_1 := o4_1.free 2; (try simp only [List.getElem?_toArray, List.getElem?_cons_zero, List.getElem?_cons_succ] at d0_1 d1_1 d2_1)
        have d0_2 := o4_2.cell 0; have e0_2 := o4_2.free 0; have d1_2 := o4_2.cell 1; have e1_2 := o4_2.free 1; have d2_2 := o4_2.cell 2; have e2_2 := o4_2.free 2; (try simp only [List.getElem?_toArray, List.getElem?_cons_zero, List.getElem?_cons_succ] at d0_2 d1_2 d2_2)
        have EE := h.step b4
        go_wp2_with fail
        refine (awake_any _ EE).mono ?_
        rintro e wq5 ⟨rfl, hbq5⟩
        have b5 := b4.trans (hbq5.mono b4.size)
        clear d0_0 d1_0 d2_0 e0_0 e1_0 e2_0
        clear d0_1 d1_1 d2_1 e0_1 e1_1 e2_1
        clear d0_2 d1_2 d2_2 e0_2 e1_2 e2_2
        have o5_0 := o4_0.below hbq5 o4_0.lt
        clear o4_0
        have o5_1 := o4_1.below hbq5 o4_1.lt
        clear o4_1
        have o5_2 := o4_2.below hbq5 o4_2.lt
        clear o4_2
        have d0_0 := o5_0.cell 0; have e0_0 := o5_0.free 0; have d1_0 := o5_0.cell 1; have e1_0 := o5_0.free 1; have d2_0 := o5_0.cell 2; have e2_0 := o5_0.free 2; (try simp only [List.getElem?_toArray, List.getElem?_cons_zero, List.getElem?_cons_succ] at d0_0 d1_0 d2_0)
        have d0_1 := o5_1.cell 0; have e0_1 := o5_1.free 0; have d1_1 := o5_1.cell 1; have e1_1 := o5_1.free 1; have d2_1 := o5_1.cell 2; have e2_1 := o5_1.free 2; (try simp only [List.getElem?_toArray, List.getElem?_cons_zero, List.getElem?_cons_succ] at d0_1 d1_1 d2_1)
        have d0_2 := o5_2.cell 0; have e0_2 := o5_2.free 0; have d1_2 := o5_2.cell 1; have e1_2 := o5_2.free 1; have d2_2 := o5_2.cell 2; have e2_2 := o5_2.free 2; (try simp only [List.getElem?_toArray, List.getElem?_cons_zero, List.getElem?_cons_succ] at d0_2 d1_2 d2_2)
        go_wp2
        go_ret
        exact ⟨rfl, b5⟩
      · have hkb : (k != k2) = true := by simpa using hkk
        clear hk
        go_wp2_with fail
        refine (l1 _).mono ?_
        rintro e wq3 ⟨rfl, hbq3⟩
        have b3 := b2.trans (hbq3.mono b2.size)
        clear d0_0 d1_0 d2_0 e0_0 e1_0 e2_0
        clear d0_1 d1_1 d2_1 e0_1 e1_1 e2_1
        clear d0_2 d1_2 d2_2 e0_2 e1_2 e2_2
        have o3_0 := o2_0.below hbq3 o2_0.lt
        clear o2_0
        have o3_1 := o2_1.below hbq3 o2_1.lt
        clear o2_1
        have o3_2 := o2_2.below hbq3 o2_2.lt
        clear o2_2
        have d0_0 := o3_0.cell 0; have e0_0 := o3_0.free 0; have d1_0 := o3_0.cell 1; have e1_0 := o3_0.free 1; have d2_0 := o3_0.cell 2; have e2_0 := o3_0.free 2; (try simp only [List.getElem?_toArray, List.getElem?_cons_zero, List.getElem?_cons_succ] at d0_0 d1_0 d2_0)
        have d0_1 := o3_1.cell 0; have e0_1 := o3_1.free 0; have d1_1 := o3_1.cell 1; have e1_1 := o3_1.free 1; have d2_1 := o3_1.cell 2; have e2_1 := o3_1.free 2; (try simp only [List.getElem?_toArray, List.getElem?_cons_zero, List.getElem?_cons_succ] at d0_1 d1_1 d2_1)
        have d0_2 := o3_2.cell 0; have e0_2 := o3_2.free 0; have d1_2 := o3_2.cell 1; have e1_2 := o3_2.free 1; have d2_2 := o3_2.cell 2; have e2_2 := o3_2.free 2; (try simp only [List.getElem?_toArray, List.getElem?_cons_zero, List.getElem?_cons_succ] at d0_2 d1_2 d2_2)
        go_wp2_with fail
        refine (e1 _).mono ?_
        rintro e wq4 ⟨rfl, hbq4⟩
        have b4 := b3.trans (hbq4.mono b3.size)
        clear d0_0 d1_0 d2_0 e0_0 e1_0 e2_0
        clear d0_1 d1_1 d2_1 e0_1 e1_1 e2_1
        clear d0_2 d1_2 d2_2 e0_2 e1_2 e2_2
        have o4_0 := o3_0.below hbq4 o3_0.lt
        clear o3_0
        have o4_1 := o3_1.below hbq4 o3_1.lt
        clear o3_1
        have o4_2 := o3_2.below hbq4 o3_2.lt
        clear o3_2
        have d0_0 := o4_0.cell 0; have e0_0 := o4_0.free 0; have d1_0 := o4_0.cell 1; have e1_0 := o4_0.free 1; have d2_0 := o4_0.cell 2; have e2_0 := o4_0.free 2; (try simp only [List.getElem?_toArray, List.getElem?_cons_zero, List.getElem?_cons_succ] at d0_0 d1_0 d2_0)
        have d0_1 := o4_1.cell 0; have e0_1 := o4_1.free 0; have d1_1 := o4_1.cell 1; have e1_1 := o4_1.free 1; have d2_1 := o4_1.cell 2; have e2_1 := o4_1.free 2; (try simp only [List.getElem?_toArray, List.getElem?_cons_zero, List.getElem?_cons_succ] at d0_1 d1_1 d2_1)
        have d0_2 := o4_2.cell 0; have e0_2 := o4_2.free 0; have d1_2 := o4_2.cell 1; have e1_2 := o4_2.free 1; have d2_2 := o4_2.cell 2; have e2_2 := o4_2.free 2; (try simp only [List.getElem?_toArray, List.getElem?_cons_zero, List.getElem?_cons_succ] at d0_2 d1_2 d2_2)
        have EE := h.step b4
        go_wp2_with fail
        refine (awake_any _ EE).mono ?_
        rintro e wq5 ⟨rfl, hbq5⟩
        have b5 := b4.trans (hbq5.mono b4.size)
        clear d0_0 d1_0 d2_0 e0_0 e1_0 e2_0
        clear d0_1 d1_1 d2_1 e0_1 e1_1 e2_1
        clear d0_2 d1_2 d2_2 e0_2 e1_2 e2_2
        have o5_0 := o4_0.below hbq5 o4_0.lt
        clear o4_0
        have o5_1 := o4_1.below hbq5 o4_1.lt
        clear o4_1
        have o5_2 := o4_2.below hbq5 o4_2.lt
        clear o4_2
        have d0_0 := o5_0.cell 0; have e0_0 := o5_0.free 0; have d1_0 := o5_0.cell 1; have e1_0 := o5_0.free 1; have d2_0 := o5_0.cell 2; have e2_0 := o5_0.free 2; (try simp only [List.getElem?_toArray, List.getElem?_cons_zero, List.getElem?_cons_succ] at d0_0 d1_0 d2_0)
        have d0_1 := o5_1.cell 0; have e0_1 := o5_1.free 0; have d1_1 := o5_1.cell 1; have e1_1 := o5_1.free 1; have d2_1 := o5_1.cell 2; have e2_1 := o5_1.free 2; (try simp only [List.getElem?_toArray, List.getElem?_cons_zero, List.getElem?_cons_succ] at d0_1 d1_1 d2_1)
        have d0_2 := o5_2.cell 0; have e0_2 := o5_2.free 0; have d1_2 := o5_2.cell 1; have e1_2 := o5_2.free 1; have d2_2 := o5_2.cell 2; have e2_2 := o5_2.free 2; (try simp only [List.getElem?_toArray, List.getElem?_cons_zero, List.getElem?_cons_succ] at d0_2 d1_2 d2_2)
        go_wp2
        go_ret
        exact ⟨rfl, b5⟩
    · obtain ⟨rfl, rfl, rfl⟩ := hK hk
      have hk1 : k = k2 := by rcases Decidable.em (k = k2) with h | h; exact h; exact absurd (.inl h) hk
      have hk2 : ¬ k = 0 := fun h => hk (.inr h)
      clear hN hK hk
      subst hk1
      have hk3 : (k == 0) = false := by simpa using hk2
      simp only [show ((1 : Int) < 0) = False by simp, show ((1 : Int) = 0) = False by simp, show ((0 : Int) < 1) = True by simp, if_true, if_false] at l1 e1 l2
      go_wp2_with fail
      refine (l1 _).mono ?_
      rintro e wq3 ⟨rfl, hbq3⟩
      have b3 := b2.trans (hbq3.mono b2.size)
      clear d0_0 d1_0 d2_0 e0_0 e1_0 e2_0
      clear d0_1 d1_1 d2_1 e0_1 e1_1 e2_1
      clear d0_2 d1_2 d2_2 e0_2 e1_2 e2_2
      have o3_0 := o2_0.below hbq3 o2_0.lt
      clear o2_0
      have o3_1 := o2_1.below hbq3 o2_1.lt
      clear o2_1
      have o3_2 := o2_2.below hbq3 o2_2.lt
      clear o2_2
      have d0_0 := o3_0.cell 0; have e0_0 := o3_0.free 0; have d1_0 := o3_0.cell 1; have e1_0 := o3_0.free 1; have d2_0 := o3_0.cell 2; have e2_0 := o3_0.free 2; (try simp only [List.getElem?_toArray, List.getElem?_cons_zero, List.getElem?_cons_succ] at d0_0 d1_0 d2_0)
      have d0_1 := o3_1.cell 0; have e0_1 := o3_1.free 0; have d1_1 := o3_1.cell 1; have e1_1 := o3_1.free 1; have d2_1 := o3_1.cell 2; have e2_1 := o3_1.free 2; (try simp only [List.getElem?_toArray, List.getElem?_cons_zero, List.getElem?_cons_succ] at d0_1 d1_1 d2_1)
      have d0_2 := o3_2.cell 0; have e0_2 := o3_2.free 0; have d1_2 := o3_2.cell 1; have e1_2 := o3_2.free 1; have d2_2 := o3_2.cell 2; have e2_2 := o3_2.free 2; (try simp only [List.getElem?_toArray, List.getElem?_cons_zero, List.getElem?_cons_succ] at d0_2 d1_2 d2_2)
      go_wp2_with fail
      refine (e1 _).mono ?_
      rintro e wq4 ⟨rfl, hbq4⟩
      have b4 := b3.trans (hbq4.mono b3.size)
      clear d0_0 d1_0 d2_0 e0_0 e1_0 e2_0
      clear d0_1 d1_1 d2_1 e0_1 e1_1 e2_1
      clear d0_2 d1_2 d2_2 e0_2 e1_2 e2_2
      have o4_0 := o3_0.below hbq4 o3_0.lt
      clear o3_0
      have o4_1 := o3_1.below hbq4 o3_1.lt
      clear o3_1
      have o4_2 := o3_2.below hbq4 o3_2.lt
      clear o3_2
      have d0_0 := o4_0.cell 0; have e0_0 := o4_0.free 0; have d1_0 := o4_0.cell 1; have e1_0 := o4_0.free 1; have d2_0 := o4_0.cell 2; have e2_0 := o4_0.free 2; (try simp only [List.getElem?_toArray, List.getElem?_cons_zero, List.getElem?_cons_succ] at d0_0 d1_0 d2_0)
      have d0_1 := o4_1.cell 0; have e0_1 := o4_1.free 0; have d1_1 := o4_1.cell 1; have e1_1 := o4_1.free 1; have d2_1 := o4_1.cell 2; have e2_1 := o4_1.free 2; (try simp only [List.getElem?_toArray, List.getElem?_cons_zero, List.getElem?_cons_succ] at d0_1 d1_1 d2_1)
      have d0_2 := o4_2.cell 0; have e0_2 := o4_2.free 0; have d1_2 := o4_2.cell 1; have e1_2 := o4_2.free 1; have d2_2 := o4_2.cell 2; have e2_2 := o4_2.free 2; (try simp only [List.getElem?_toArray, List.getElem?_cons_zero, List.getElem?_cons_succ] at d0_2 d1_2 d2_2)
      go_wp2_with fail
      refine (l2 _).mono ?_
      rintro e wq5 ⟨rfl, hbq5⟩
      have b5 := b4.trans (hbq5.mono b4.size)
      clear d0_0 d1_0 d2_0 e0_0 e1_0 e2_0
      clear d0_1 d1_1 d2_1 e0_1 e1_1 e2_1
      clear d0_2 d1_2 d2_2 e0_2 e1_2 e2_2
      have o5_0 := o4_0.below hbq5 o4_0.lt
      clear o4_0
      have o5_1 := o4_1.below hbq5 o4_1.lt
      clear o4_1
      have o5_2 := o4_2.below hbq5 o4_2.lt
      clear o4_2
      have d0_0 := o5_0.cell 0; have e0_0 := o5_0.free 0; have d1_0 := o5_0.cell 1; have e1_0 := o5_0.free 1; have d2_0 := o5_0.cell 2; have e2_0 := o5_0.free 2; (try simp only [List.getElem?_toArray, List.getElem?_cons_zero, List.getElem?_cons_succ] at d0_0 d1_0 d2_0)
      have d0_1 := o5_1.cell 0; have e0_1 := o5_1.free 0; have d1_1 := o5_1.cell 1; have e1_1 := o5_1.free 1; have d2_1 := o5_1.cell 2; have e2_1 := o5_1.free 2; (try simp only [List.getElem?_toArray, List.getElem?_cons_zero, List.getElem?_cons_succ] at d0_1 d1_1 d2_1)
      have d0_2 := o5_2.cell 0; have e0_2 := o5_2.free 0; have d1_2 := o5_2.cell 1; have e1_2 := o5_2.free 1; have d2_2 := o5_2.cell 2; have e2_2 := o5_2.free 2; (try simp only [List.getElem?_toArray, List.getElem?_cons_zero, List.getElem?_cons_succ] at d0_2 d1_2 d2_2)
      have EE := h.step b5
      go_wp2_with fail
      refine (awake_any _ EE).mono ?_
      rintro e wq6 ⟨rfl, hbq6⟩
      have b6 := b5.trans (hbq6.mono b5.size)
      clear d0_0 d1_0 d2_0 e0_0 e1_0 e2_0
      clear d0_1 d1_1 d2_1 e0_1 e1_1 e2_1
      clear d0_2 d1_2 d2_2 e0_2 e1_2 e2_2
      have o6_0 := o5_0.below hbq6 o5_0.lt
      clear o5_0
      have o6_1 := o5_1.below hbq6 o5_1.lt
      clear o5_1
      have o6_2 := o5_2.below hbq6 o5_2.lt
      clear o5_2
      have d0_0 := o6_0.cell 0; have e0_0 := o6_0.free 0; have d1_0 := o6_0.cell 1; have e1_0 := o6_0.free 1; have d2_0 := o6_0.cell 2; have e2_0 := o6_0.free 2; (try simp only [List.getElem?_toArray, List.getElem?_cons_zero, List.getElem?_cons_succ] at d0_0 d1_0 d2_0)
      have d0_1 := o6_1.cell 0; have e0_1 := o6_1.free 0; have d1_1 := o6_1.cell 1; have e1_1 := o6_1.free 1; have d2_1 := o6_1.cell 2; have e2_1 := o6_1.free 2; (try simp only [List.getElem?_toArray, List.getElem?_cons_zero, List.getElem?_cons_succ] at d0_1 d1_1 d2_1)
      have d0_2 := o6_2.cell 0; have e0_2 := o6_2.free 0; have d1_2 := o6_2.cell 1; have e1_2 := o6_2.free 1; have d2_2 := o6_2.cell 2; have e2_2 := o6_2.free 2; (try simp only [List.getElem?_toArray, List.getElem?_cons_zero, List.getElem?_cons_succ] at d0_2 d1_2 d2_2)
      go_wp2
      go_ret
      exact ⟨rfl, b6⟩
set_option maxRecDepth 100000 in
theorem law_order (k n : Int) (s : ByteArray) (k2 n2 : Int) (s2 : ByteArray) (k3 n3 : Int) (s3 : ByteArray) (w : World) (h : Env w) :
    Calls Tryz.prog 8 #[.agg #[.int .i64 k, .int .i64 n, .string s], .agg #[.int .i64 k2, .int .i64 n2, .string s2], .agg #[.int .i64 k3, .int .i64 n3, .string s3]] w fun e w' => e = .returned (.bool true) ∧ Below w.heap.size w w' := by
  refine order_walk k n s k2 n2 s2 k3 n3 s3 (cmpV k n s k2 n2 s2) (cmpV k2 n2 s2 k3 n3 s3) (cmpV k n s k3 n3 s3) (lesV k n s k2 n2 s2) (eqlV k n s k2 n2 s2) (lesV k2 n2 s2 k n s) w h (fun W => pCompare_any k n s k2 n2 s2 W) (fun W => pCompare_any k2 n2 s2 k3 n3 s3 W) (fun W => ?_) (fun W => pCompare_any k n s k3 n3 s3 W) (fun W => pLess_any k n s k2 n2 s2 W) (fun W => pEqual_any k n s k2 n2 s2 W) (fun W => pLess_any k2 n2 s2 k n s W) (fun W => ?_) (cmpV_range k n s k2 n2 s2) (fun h1 h2 => cmpV_trans k n s k2 n2 s2 k3 n3 s3 h1 h2) ?_ ?_
  · rw [← cmpV_anti]; exact pCompare_any k2 n2 s2 k n s W
  · rw [← cmpV_zero]; exact eql_val k n s k2 n2 s2 W
  · intro hk
    have hc : cpbV k k2 = false := by
      unfold cpbV
      rcases hk with hk | hk
      · simp [hk]
      · simp [hk]
    unfold lesV eqlV tV
    rw [hc]
    exact ⟨rfl, rfl⟩
  · intro hk
    have h1 : k = k2 := by rcases Decidable.em (k = k2) with h | h; exact h; exact absurd (.inl h) hk
    have h2 : ¬ k = 0 := fun h => hk (.inr h)
    have hc : cpbV k k2 = true := by unfold cpbV; rw [← h1]; simp [h2]
    have hc2 : cpbV k2 k = true := by unfold cpbV; rw [← h1]; simp [h2]
    unfold lesV eqlV tV
    rw [hc, hc2, cmpV_anti k n s k2 n2 s2]
    refine ⟨by simp, by simp, ?_⟩
    by_cases hx : 0 < cmpV k n s k2 n2 s2
    · rw [if_pos rfl, decide_eq_true (by omega), if_pos hx]; rfl
    · rw [if_pos rfl, decide_eq_false (by omega), if_neg hx]; rfl
end Go.Proofs.YthjnkekkjjcnfaaGreatDoor
