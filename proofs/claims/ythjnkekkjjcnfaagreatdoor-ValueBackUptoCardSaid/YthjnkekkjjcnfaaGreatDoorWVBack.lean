/-
  The walk of the statement ValueBack, for strings of at most 2097152 bytes. Conditions: the tables lie as the rows say.
-/
import Derived.Test.YthjnkekkjjcnfaaGreatDoorVaR
import Derived.WalkKit
import Derived.WalkSpells
import Derived.WalkLawsBesides
import Derived.Deep.QuietTactic
import Derived.BigQuiet
import Derived.Handy
import Derived.Lib.Hide
namespace Go.Proofs.YthjnkekkjjcnfaaGreatDoor
open Go.RowKit

set_option maxRecDepth 100000 in
set_option maxHeartbeats 3200000 in
theorem back_yy (k n : Int) (s : ByteArray) (s1 : ByteArray) (k1 n1 er : Int) (t1 : ByteArray) (w : World) (h : Env w)
    (hR : ∀ W, Env W → Calls Tryz.prog 37 #[.string s1] W fun e w' => e = .returned (.tuple #[.agg #[.int .i64 k1, .int .i64 n1, .string t1], .int .i64 er]) ∧ Below W.heap.size W w') (hv : vldV k n s = true) (lt : ByteArray) (hL : ∀ W, Env W → Calls Tryz.prog 39 #[.agg #[.int .i64 k, .int .i64 n, .string s]] W fun e w' => e = .returned (.string lt) ∧ Below W.heap.size W w') (hP : ∀ W, Env W → Calls Tryz.prog 37 #[.string lt] W fun e w' => e = .returned (.tuple #[.agg #[.int .i64 k, .int .i64 n, .string s], .int .i64 0]) ∧ Below W.heap.size W w') (he : er = 0) (hV1 : ∀ W, Calls Tryz.prog 10 #[.agg #[.int .i64 k1, .int .i64 n1, .string t1]] W fun e w' => e = .returned (.bool true) ∧ Below W.heap.size W w') (hL1 : ∀ W, Env W → Calls Tryz.prog 39 #[.agg #[.int .i64 k1, .int .i64 n1, .string t1]] W fun e w' => e = .returned (.string s1) ∧ Below W.heap.size W w') :
    Calls Tryz.prog 7 #[.agg #[.int .i64 k, .int .i64 n, .string s], .string s1] w fun e w' => e = .returned (.bool true) ∧ Below w.heap.size w w' := by
  subst he
  have b0 := (Below.refl w.heap.size w).alloc (Nat.le_refl _) (.cells #[.int .i64 k, .int .i64 n, .string s] 23)
  have o0 := Own.new w 23 #[.int .i64 k, .int .i64 n, .string s]
  have E0 := h.step b0
  have hV := fun W => pValid_any k n s W
  rw [hv] at hV
  have q := fun W => neq_val k n s k n s W
  rw [eqV_self] at q
  unfold vV at hV
  clear hv
  go_enter Tryz.func7, Tryz.ntmps7
  go_wp2_with fail
  refine (hV _).mono ?_
  rintro e w1 ⟨rfl, hb1⟩
  have b1 := b0.trans (hb1.mono b0.size)
  have o1 := o0.below hb1 o0.lt
  have E1 := h.step b1
  clear hV o0 E0
  have d0 := o1.cell 0; have e0 := o1.free 0; have d1 := o1.cell 1; have e1 := o1.free 1; have d2 := o1.cell 2; have e2 := o1.free 2; (try simp only [List.getElem?_toArray, List.getElem?_cons_zero, List.getElem?_cons_succ] at d0 d1 d2)
  go_wp2_with fail
  refine (hL _ E1).mono ?_
  rintro e w2 ⟨rfl, hb2⟩
  have b2 := b1.trans (hb2.mono b1.size)
  have o2 := o1.below hb2 o1.lt
  have E2 := h.step b2
  clear o1 E1 d0 d1 d2 e0 e1 e2
  go_wp2_with fail
  refine (hP _ E2).mono ?_
  rintro e w3 ⟨rfl, hb3⟩
  have b3 := b2.trans (hb3.mono b2.size)
  have o3 := o2.below hb3 o2.lt
  clear o2 E2 hL hP
  have o4 := o3.alloc (.cells #[.int .i64 k, .int .i64 n, .string s] 23)
  have oV := Own.new w3 23 #[.int .i64 k, .int .i64 n, .string s]
  have b4 := b3.alloc b3.size (.cells #[.int .i64 k, .int .i64 n, .string s] 23)
  have E4 := h.step b4
  have sV : (w3.alloc (.cells #[.int .i64 k, .int .i64 n, .string s] 23)).heap.size = w3.heap.size + 1 := by simp
  have sv := oV.lt
  have so := o4.lt
  clear o3
  have d0 := oV.cell 0; have e0 := oV.free 0; have d1 := oV.cell 1; have e1 := oV.free 1; have d2 := oV.cell 2; have e2 := oV.free 2; (try simp only [List.getElem?_toArray, List.getElem?_cons_zero, List.getElem?_cons_succ] at d0 d1 d2)
  have d0a := o4.cell 0; have e0a := o4.free 0; have d1a := o4.cell 1; have e1a := o4.free 1; have d2a := o4.cell 2; have e2a := o4.free 2; (try simp only [List.getElem?_toArray, List.getElem?_cons_zero, List.getElem?_cons_succ] at d0a d1a d2a)
  go_wp2_with fail
  generalize w3.alloc (.cells #[.int .i64 k, .int .i64 n, .string s] 23) = w4 at *
  refine (hR _ E4).mono ?_
  rintro e x1 ⟨rfl, hc1⟩
  clear d0 d1 d2 e0 e1 e2 d0a d1a d2a e0a e1a e2a
  have y1 := b4.trans (hc1.mono b4.size)
  have oW := Own.new x1 23 #[.int .i64 k1, .int .i64 n1, .string t1]
  have y2 := y1.alloc y1.size (.cells #[.int .i64 k1, .int .i64 n1, .string t1] 23)
  have sX : (x1.alloc (.cells #[.int .i64 k1, .int .i64 n1, .string t1] 23)).heap.size = x1.heap.size + 1 := by simp
  have d0 := oW.cell 0; have e0 := oW.free 0; have d1 := oW.cell 1; have e1 := oW.free 1; have d2 := oW.cell 2; have e2 := oW.free 2; (try simp only [List.getElem?_toArray, List.getElem?_cons_zero, List.getElem?_cons_succ] at d0 d1 d2)
  go_wp2_with fail
  generalize x1.alloc (.cells #[.int .i64 k1, .int .i64 n1, .string t1] 23) = x2 at *
  have F2 := h.step y2
  refine (hV1 _).mono ?_
  rintro e x3 ⟨rfl, hc3⟩
  have y3 := y2.trans (hc3.mono y2.size)
  have oX := oW.below hc3 oW.lt
  have F3 := h.step y3
  clear d0 d1 d2 e0 e1 e2 oW F2
  have d0 := oX.cell 0; have e0 := oX.free 0; have d1 := oX.cell 1; have e1 := oX.free 1; have d2 := oX.cell 2; have e2 := oX.free 2; (try simp only [List.getElem?_toArray, List.getElem?_cons_zero, List.getElem?_cons_succ] at d0 d1 d2)
  go_wp2_with fail
  refine (hL1 _ F3).mono ?_
  rintro e x4 ⟨rfl, hc4⟩
  have y4 := y3.trans (hc4.mono y3.size)
  have F4 := h.step y4
  clear d0 d1 d2 e0 e1 e2 oX F3
  go_wp2_with fail
  refine (awake_any _ F4).mono ?_
  rintro e x5 ⟨rfl, hc5⟩
  have y5 := y4.trans (hc5.mono y4.size)
  go_wp2
  go_ret
  exact ⟨rfl, y5⟩
set_option maxRecDepth 100000 in
set_option maxHeartbeats 3200000 in
theorem back_yn (k n : Int) (s : ByteArray) (s1 : ByteArray) (k1 n1 er : Int) (t1 : ByteArray) (w : World) (h : Env w)
    (hR : ∀ W, Env W → Calls Tryz.prog 37 #[.string s1] W fun e w' => e = .returned (.tuple #[.agg #[.int .i64 k1, .int .i64 n1, .string t1], .int .i64 er]) ∧ Below W.heap.size W w') (hv : vldV k n s = true) (lt : ByteArray) (hL : ∀ W, Env W → Calls Tryz.prog 39 #[.agg #[.int .i64 k, .int .i64 n, .string s]] W fun e w' => e = .returned (.string lt) ∧ Below W.heap.size W w') (hP : ∀ W, Env W → Calls Tryz.prog 37 #[.string lt] W fun e w' => e = .returned (.tuple #[.agg #[.int .i64 k, .int .i64 n, .string s], .int .i64 0]) ∧ Below W.heap.size W w') (he : (er != 0) = true) (q1 : ∀ W, (binOp .eql 23 (.agg #[.int .i64 k1, .int .i64 n1, .string t1]) (.agg #[.int .i64 0, .int .i64 0, .string ⟨#[]⟩])).run Tryz.prog W = .ok (.bool true) W) :
    Calls Tryz.prog 7 #[.agg #[.int .i64 k, .int .i64 n, .string s], .string s1] w fun e w' => e = .returned (.bool true) ∧ Below w.heap.size w w' := by
  have b0 := (Below.refl w.heap.size w).alloc (Nat.le_refl _) (.cells #[.int .i64 k, .int .i64 n, .string s] 23)
  have o0 := Own.new w 23 #[.int .i64 k, .int .i64 n, .string s]
  have E0 := h.step b0
  have hV := fun W => pValid_any k n s W
  rw [hv] at hV
  have q := fun W => neq_val k n s k n s W
  rw [eqV_self] at q
  unfold vV at hV
  clear hv
  go_enter Tryz.func7, Tryz.ntmps7
  go_wp2_with fail
  refine (hV _).mono ?_
  rintro e w1 ⟨rfl, hb1⟩
  have b1 := b0.trans (hb1.mono b0.size)
  have o1 := o0.below hb1 o0.lt
  have E1 := h.step b1
  clear hV o0 E0
  have d0 := o1.cell 0; have e0 := o1.free 0; have d1 := o1.cell 1; have e1 := o1.free 1; have d2 := o1.cell 2; have e2 := o1.free 2; (try simp only [List.getElem?_toArray, List.getElem?_cons_zero, List.getElem?_cons_succ] at d0 d1 d2)
  go_wp2_with fail
  refine (hL _ E1).mono ?_
  rintro e w2 ⟨rfl, hb2⟩
  have b2 := b1.trans (hb2.mono b1.size)
  have o2 := o1.below hb2 o1.lt
  have E2 := h.step b2
  clear o1 E1 d0 d1 d2 e0 e1 e2
  go_wp2_with fail
  refine (hP _ E2).mono ?_
  rintro e w3 ⟨rfl, hb3⟩
  have b3 := b2.trans (hb3.mono b2.size)
  have o3 := o2.below hb3 o2.lt
  clear o2 E2 hL hP
  have o4 := o3.alloc (.cells #[.int .i64 k, .int .i64 n, .string s] 23)
  have oV := Own.new w3 23 #[.int .i64 k, .int .i64 n, .string s]
  have b4 := b3.alloc b3.size (.cells #[.int .i64 k, .int .i64 n, .string s] 23)
  have E4 := h.step b4
  have sV : (w3.alloc (.cells #[.int .i64 k, .int .i64 n, .string s] 23)).heap.size = w3.heap.size + 1 := by simp
  have sv := oV.lt
  have so := o4.lt
  clear o3
  have d0 := oV.cell 0; have e0 := oV.free 0; have d1 := oV.cell 1; have e1 := oV.free 1; have d2 := oV.cell 2; have e2 := oV.free 2; (try simp only [List.getElem?_toArray, List.getElem?_cons_zero, List.getElem?_cons_succ] at d0 d1 d2)
  have d0a := o4.cell 0; have e0a := o4.free 0; have d1a := o4.cell 1; have e1a := o4.free 1; have d2a := o4.cell 2; have e2a := o4.free 2; (try simp only [List.getElem?_toArray, List.getElem?_cons_zero, List.getElem?_cons_succ] at d0a d1a d2a)
  go_wp2_with fail
  generalize w3.alloc (.cells #[.int .i64 k, .int .i64 n, .string s] 23) = w4 at *
  refine (hR _ E4).mono ?_
  rintro e x1 ⟨rfl, hc1⟩
  clear d0 d1 d2 e0 e1 e2 d0a d1a d2a e0a e1a e2a
  have y1 := b4.trans (hc1.mono b4.size)
  have oW := Own.new x1 23 #[.int .i64 k1, .int .i64 n1, .string t1]
  have y2 := y1.alloc y1.size (.cells #[.int .i64 k1, .int .i64 n1, .string t1] 23)
  have sX : (x1.alloc (.cells #[.int .i64 k1, .int .i64 n1, .string t1] 23)).heap.size = x1.heap.size + 1 := by simp
  go_wp2_with fail
  generalize x1.alloc (.cells #[.int .i64 k1, .int .i64 n1, .string t1] 23) = x2 at *
  have F2 := h.step y2
  obtain ⟨f0, f1, f2⟩ := val_cells (by omega) oW
  have hN : ∀ W, Calls Tryz.prog 12 #[] W fun e w' => e = .returned (.agg #[.int .i64 0, .int .i64 0, .string ⟨#[]⟩]) ∧ Below W.heap.size W w' := fun W => pNull_any W
  have hA : ∀ p : After x2, Calls Tryz.prog 20 #[] p.w fun e w' => e = .returned (.bool true) ∧ Below p.w.heap.size p.w w' := fun p => awake_any p.w (F2.step p.h)
  (refine wp_region_after (by kernel_rfl) (by kernel_rfl) ?_; (repeat (go_big_quiet_step ((first | (go_at_call 12; exact calls_after (hN _)) | (go_at_call 20; exact calls_after (hA _)))))); refine wpQuiet_nil ?_; intro x3 hw0; obtain ⟨⟨wq0, hc3⟩, hw1⟩ := hw0; subst hw1; (try dsimp only))
  have y3 := y2.trans (hc3.mono y2.size)
  go_wp2
  go_ret
  exact ⟨rfl, y3⟩
set_option maxRecDepth 100000 in
set_option maxHeartbeats 3200000 in
theorem back_ny (k n : Int) (s : ByteArray) (s1 : ByteArray) (k1 n1 er : Int) (t1 : ByteArray) (w : World) (h : Env w)
    (hR : ∀ W, Env W → Calls Tryz.prog 37 #[.string s1] W fun e w' => e = .returned (.tuple #[.agg #[.int .i64 k1, .int .i64 n1, .string t1], .int .i64 er]) ∧ Below W.heap.size W w') (hv : vldV k n s = false) (he : er = 0) (hV1 : ∀ W, Calls Tryz.prog 10 #[.agg #[.int .i64 k1, .int .i64 n1, .string t1]] W fun e w' => e = .returned (.bool true) ∧ Below W.heap.size W w') (hL1 : ∀ W, Env W → Calls Tryz.prog 39 #[.agg #[.int .i64 k1, .int .i64 n1, .string t1]] W fun e w' => e = .returned (.string s1) ∧ Below W.heap.size W w') :
    Calls Tryz.prog 7 #[.agg #[.int .i64 k, .int .i64 n, .string s], .string s1] w fun e w' => e = .returned (.bool true) ∧ Below w.heap.size w w' := by
  subst he
  have b0 := (Below.refl w.heap.size w).alloc (Nat.le_refl _) (.cells #[.int .i64 k, .int .i64 n, .string s] 23)
  have o0 := Own.new w 23 #[.int .i64 k, .int .i64 n, .string s]
  have E0 := h.step b0
  have hV := fun W => pValid_any k n s W
  rw [hv] at hV
  unfold vV at hV
  clear hv
  go_enter Tryz.func7, Tryz.ntmps7
  go_wp2_with fail
  refine (hV _).mono ?_
  rintro e w1 ⟨rfl, hb1⟩
  have b1 := b0.trans (hb1.mono b0.size)
  have o1 := o0.below hb1 o0.lt
  have E1 := h.step b1
  clear hV o0 E0
  go_wp2_with fail
  refine (hR _ E1).mono ?_
  rintro e x1 ⟨rfl, hc1⟩
  have y1 := b1.trans (hc1.mono b1.size)
  have oW := Own.new x1 23 #[.int .i64 k1, .int .i64 n1, .string t1]
  have y2 := y1.alloc y1.size (.cells #[.int .i64 k1, .int .i64 n1, .string t1] 23)
  have sX : (x1.alloc (.cells #[.int .i64 k1, .int .i64 n1, .string t1] 23)).heap.size = x1.heap.size + 1 := by simp
  have d0 := oW.cell 0; have e0 := oW.free 0; have d1 := oW.cell 1; have e1 := oW.free 1; have d2 := oW.cell 2; have e2 := oW.free 2; (try simp only [List.getElem?_toArray, List.getElem?_cons_zero, List.getElem?_cons_succ] at d0 d1 d2)
  go_wp2_with fail
  generalize x1.alloc (.cells #[.int .i64 k1, .int .i64 n1, .string t1] 23) = x2 at *
  have F2 := h.step y2
  refine (hV1 _).mono ?_
  rintro e x3 ⟨rfl, hc3⟩
  have y3 := y2.trans (hc3.mono y2.size)
  have oX := oW.below hc3 oW.lt
  have F3 := h.step y3
  clear d0 d1 d2 e0 e1 e2 oW F2
  have d0 := oX.cell 0; have e0 := oX.free 0; have d1 := oX.cell 1; have e1 := oX.free 1; have d2 := oX.cell 2; have e2 := oX.free 2; (try simp only [List.getElem?_toArray, List.getElem?_cons_zero, List.getElem?_cons_succ] at d0 d1 d2)
  go_wp2_with fail
  refine (hL1 _ F3).mono ?_
  rintro e x4 ⟨rfl, hc4⟩
  have y4 := y3.trans (hc4.mono y3.size)
  have F4 := h.step y4
  clear d0 d1 d2 e0 e1 e2 oX F3
  go_wp2_with fail
  refine (awake_any _ F4).mono ?_
  rintro e x5 ⟨rfl, hc5⟩
  have y5 := y4.trans (hc5.mono y4.size)
  go_wp2
  go_ret
  exact ⟨rfl, y5⟩
set_option maxRecDepth 100000 in
set_option maxHeartbeats 3200000 in
theorem back_nn (k n : Int) (s : ByteArray) (s1 : ByteArray) (k1 n1 er : Int) (t1 : ByteArray) (w : World) (h : Env w)
    (hR : ∀ W, Env W → Calls Tryz.prog 37 #[.string s1] W fun e w' => e = .returned (.tuple #[.agg #[.int .i64 k1, .int .i64 n1, .string t1], .int .i64 er]) ∧ Below W.heap.size W w') (hv : vldV k n s = false) (he : (er != 0) = true) (q1 : ∀ W, (binOp .eql 23 (.agg #[.int .i64 k1, .int .i64 n1, .string t1]) (.agg #[.int .i64 0, .int .i64 0, .string ⟨#[]⟩])).run Tryz.prog W = .ok (.bool true) W) :
    Calls Tryz.prog 7 #[.agg #[.int .i64 k, .int .i64 n, .string s], .string s1] w fun e w' => e = .returned (.bool true) ∧ Below w.heap.size w w' := by
  have b0 := (Below.refl w.heap.size w).alloc (Nat.le_refl _) (.cells #[.int .i64 k, .int .i64 n, .string s] 23)
  have o0 := Own.new w 23 #[.int .i64 k, .int .i64 n, .string s]
  have E0 := h.step b0
  have hV := fun W => pValid_any k n s W
  rw [hv] at hV
  unfold vV at hV
  clear hv
  go_enter Tryz.func7, Tryz.ntmps7
  go_wp2_with fail
  refine (hV _).mono ?_
  rintro e w1 ⟨rfl, hb1⟩
  have b1 := b0.trans (hb1.mono b0.size)
  have o1 := o0.below hb1 o0.lt
  have E1 := h.step b1
  clear hV o0 E0
  go_wp2_with fail
  refine (hR _ E1).mono ?_
  rintro e x1 ⟨rfl, hc1⟩
  have y1 := b1.trans (hc1.mono b1.size)
  have oW := Own.new x1 23 #[.int .i64 k1, .int .i64 n1, .string t1]
  have y2 := y1.alloc y1.size (.cells #[.int .i64 k1, .int .i64 n1, .string t1] 23)
  have sX : (x1.alloc (.cells #[.int .i64 k1, .int .i64 n1, .string t1] 23)).heap.size = x1.heap.size + 1 := by simp
  go_wp2_with fail
  generalize x1.alloc (.cells #[.int .i64 k1, .int .i64 n1, .string t1] 23) = x2 at *
  have F2 := h.step y2
  obtain ⟨f0, f1, f2⟩ := val_cells (by omega) oW
  have hN : ∀ W, Calls Tryz.prog 12 #[] W fun e w' => e = .returned (.agg #[.int .i64 0, .int .i64 0, .string ⟨#[]⟩]) ∧ Below W.heap.size W w' := fun W => pNull_any W
  have hA : ∀ p : After x2, Calls Tryz.prog 20 #[] p.w fun e w' => e = .returned (.bool true) ∧ Below p.w.heap.size p.w w' := fun p => awake_any p.w (F2.step p.h)
  (refine wp_region_after (by kernel_rfl) (by kernel_rfl) ?_; (repeat (go_big_quiet_step ((first | (go_at_call 12; exact calls_after (hN _)) | (go_at_call 20; exact calls_after (hA _)))))); refine wpQuiet_nil ?_; intro x3 hw0; obtain ⟨⟨wq0, hc3⟩, hw1⟩ := hw0; subst hw1; (try dsimp only))
  have y3 := y2.trans (hc3.mono y2.size)
  go_wp2
  go_ret
  exact ⟨rfl, y3⟩
theorem lit_len {k n : Int} {s : ByteArray} (h : vldV k n s = true) : (litV k n s).length ≤ 2097152 := by
  unfold litV
  rw [if_pos h]
  rcases vld_kind h with ⟨rfl, rfl, h3⟩ | ⟨rfl, h1, h2, h3⟩ | ⟨rfl, rfl, h1, h2⟩ | ⟨rfl, h1, h3⟩
  · rw [nil_of_toList h3]; decide
  · rw [if_neg (by decide), if_neg (by decide), if_neg (by decide)]
    have := Lib.itoa_length_le n (by omega) (by omega)
    omega
  · rw [if_neg (by decide), if_neg (by decide), if_pos rfl]
    unfold quo
    have := (dbl_len s.data.toList).1
    rw [← Lib.size_eq] at this
    simp only [List.length_append, List.length_cons, List.length_nil]
    omega
  · rw [nil_of_toList h3]
    rcases h1 with rfl | rfl
    · decide
    · decide
theorem law_back (k n : Int) (s : ByteArray) (s1 : ByteArray) (w : World) (h : Env w) (hs : s1.size ≤ 2097152) :
    Calls Tryz.prog 7 #[.agg #[.int .i64 k, .int .i64 n, .string s], .string s1] w fun e w' => e = .returned (.bool true) ∧ Below w.heap.size w w' := by
  have hR := fun W (hE : Env W) => pParse_any s1 W hE hs
  have hb := back_str s1.data.toList
  unfold resV vV at hR
  generalize hr : parP s1.data.toList = r at *
  obtain ⟨k1, n1, t1, er⟩ := r
  dsimp only at hR hb
  clear hr
  have hE1 : ∀ (hx : er ≠ 0 ∧ k1 = 0 ∧ n1 = 0 ∧ t1 = []), (er != 0) = true ∧ ∀ W, (binOp .eql 23 (.agg #[.int .i64 k1, .int .i64 n1, .string ⟨t1.toArray⟩]) (.agg #[.int .i64 0, .int .i64 0, .string ⟨#[]⟩])).run Tryz.prog W = .ok (.bool true) W := by
    rintro ⟨h1, rfl, rfl, rfl⟩
    exact ⟨by simpa using h1, fun W => eql_self 0 0 ⟨#[]⟩ W⟩
  have hL1 : vldV k1 n1 ⟨t1.toArray⟩ = true → litV k1 n1 ⟨t1.toArray⟩ = s1.data.toList → (∀ W, Calls Tryz.prog 10 #[.agg #[.int .i64 k1, .int .i64 n1, .string ⟨t1.toArray⟩]] W fun e w' => e = .returned (.bool true) ∧ Below W.heap.size W w') ∧ (∀ W, Env W → Calls Tryz.prog 39 #[.agg #[.int .i64 k1, .int .i64 n1, .string ⟨t1.toArray⟩]] W fun e w' => e = .returned (.string s1) ∧ Below W.heap.size W w') := by
    intro h1 h2
    refine ⟨fun W => ?_, fun W hE => ?_⟩
    · have := pValid_any k1 n1 ⟨t1.toArray⟩ W
      rw [h1] at this
      exact this
    · have := pLiteral_any k1 n1 ⟨t1.toArray⟩ W hE
      rw [h2, mk_toList] at this
      exact this
  cases hv : vldV k n s
  · rcases hb with ⟨h1, h2, h3⟩ | hx
    · exact back_ny k n s s1 k1 n1 er _ w h hR hv h1 (hL1 h2 h3).1 (hL1 h2 h3).2
    · exact back_nn k n s s1 k1 n1 er _ w h hR hv (hE1 hx).1 (hE1 hx).2
  · have hL := fun W (hE : Env W) => pLiteral_any k n s W hE
    have hP := fun W (hE : Env W) => pParse_any ⟨(litV k n s).toArray⟩ W hE (by rw [size_toArray]; exact lit_len hv)
    unfold resV at hP
    rw [show (ByteArray.mk (litV k n s).toArray).data.toList = litV k n s from rfl, back_val hv] at hP
    dsimp only at hP
    rw [mk_toList] at hP
    rcases hb with ⟨h1, h2, h3⟩ | hx
    · exact back_yy k n s s1 k1 n1 er _ w h hR hv _ hL hP h1 (hL1 h2 h3).1 (hL1 h2 h3).2
    · exact back_yn k n s s1 k1 n1 er _ w h hR hv _ hL hP (hE1 hx).1 (hE1 hx).2
end Go.Proofs.YthjnkekkjjcnfaaGreatDoor
