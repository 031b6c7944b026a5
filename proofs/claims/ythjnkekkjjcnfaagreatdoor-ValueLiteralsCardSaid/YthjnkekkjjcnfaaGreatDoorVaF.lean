/-
  Values: equality and order as truth values: what each function answers, in every world. Conditions: none.
-/
import Derived.Test.YthjnkekkjjcnfaaGreatDoorVaE
import Derived.WalkKit
import Derived.WalkSpells
import Derived.WalkLawsBesides
import Derived.Deep.QuietTactic
import Derived.BigQuiet
import Derived.Handy
import Derived.Lib.Hide
namespace Go.Proofs.YthjnkekkjjcnfaaGreatDoor
open Go.RowKit

def cpbV (k k2 : Int) : Bool := k == k2 && k != 0
set_option maxRecDepth 100000 in
set_option maxHeartbeats 1600000 in
theorem pComparable_any (k n : Int) (s : ByteArray) (k2 n2 : Int) (s2 : ByteArray) (w : World) :
    Calls Tryz.prog 48 #[vV k n s, vV k2 n2 s2] w fun e w' => e = .returned (.bool (cpbV k k2)) ∧ Below w.heap.size w w' := by
  unfold cpbV vV
  cases h1 : k == k2 <;> cases h2 : k != 0
  all_goals
    go_enter Tryz.func48, Tryz.ntmps48
    go_wp2
    go_ret
    refine ⟨by first | rfl | simp [*], ?_⟩
    (repeat' (first | (with_reducible exact Below.refl _ _) | (with_reducible assumption) | (with_reducible refine Below.alloc ?_ ?_ _) | (with_reducible refine Below.drew ?_) | (with_reducible refine Below.setCell ?_ ?_ _) | (with_reducible refine Below.trans ?_ (Below.mono (by assumption) ?_)) | go_size))
def tV (c b : Bool) : Int := if c then (if b then 2 else 0) else 1
set_option maxRecDepth 100000 in
set_option maxHeartbeats 1600000 in
theorem rtruth_any (k n : Int) (s : ByteArray) (k2 n2 : Int) (s2 : ByteArray) (b : Bool) (w : World) :
    Calls Tryz.prog 50 #[vV k n s, vV k2 n2 s2, .bool b] w fun e w' => e = .returned (.int .i64 (tV (cpbV k k2) b)) ∧ Below w.heap.size w w' := by
  unfold tV cpbV vV
  by_cases h1 : k = 0
  · subst h1
    have e : ((0 : Int) == k2 && (0 : Int) != 0) = false := by simp
    rw [e]
    go_enter Tryz.func50, Tryz.ntmps50
    go_wp2
    go_ret
    refine ⟨rfl, ?_⟩
    (repeat' (first | (with_reducible exact Below.refl _ _) | (with_reducible assumption) | (with_reducible refine Below.alloc ?_ ?_ _) | (with_reducible refine Below.drew ?_) | (with_reducible refine Below.setCell ?_ ?_ _) | (with_reducible refine Below.trans ?_ (Below.mono (by assumption) ?_)) | go_size))
  · have j1 : (k == 0) = false := by simpa using h1
    have j2 : (k != 0) = true := by simpa using h1
    rw [j2, Bool.and_true]
    cases h2 : k == k2 <;> cases b
    all_goals
      go_enter Tryz.func50, Tryz.ntmps50
      go_wp2
      go_ret
      refine ⟨by first | rfl | simp [*], ?_⟩
      (repeat' (first | (with_reducible exact Below.refl _ _) | (with_reducible assumption) | (with_reducible refine Below.alloc ?_ ?_ _) | (with_reducible refine Below.drew ?_) | (with_reducible refine Below.setCell ?_ ?_ _) | (with_reducible refine Below.trans ?_ (Below.mono (by assumption) ?_)) | go_size))
def eqlV (k n : Int) (s : ByteArray) (k2 n2 : Int) (s2 : ByteArray) : Int := tV (cpbV k k2) (decide (cmpV k n s k2 n2 s2 = 0))
def lesV (k n : Int) (s : ByteArray) (k2 n2 : Int) (s2 : ByteArray) : Int := tV (cpbV k k2) (decide (cmpV k n s k2 n2 s2 < 0))
set_option maxRecDepth 100000 in
set_option maxHeartbeats 1600000 in
theorem pEqual_any (k n : Int) (s : ByteArray) (k2 n2 : Int) (s2 : ByteArray) (w : World) :
    Calls Tryz.prog 23 #[vV k n s, vV k2 n2 s2] w fun e w' => e = .returned (.int .i64 (eqlV k n s k2 n2 s2)) ∧ Below w.heap.size w w' := by
  unfold eqlV
  have hC := fun W => pComparable_any k n s k2 n2 s2 W
  have hM := fun W => pCompare_any k n s k2 n2 s2 W
  have hT := fun b W => truthOf_any b W
  generalize cpbV k k2 = c at *
  generalize cmpV k n s k2 n2 s2 = m at *
  unfold vV at *
  have oA : Own ((w.alloc (.cells #[.int .i64 k, .int .i64 n, .string s] 23)).alloc (.cells #[.int .i64 k2, .int .i64 n2, .string s2] 23)) w.heap.size 23 #[.int .i64 k, .int .i64 n, .string s] := (Own.new _ _ _).alloc _
  have oB : Own ((w.alloc (.cells #[.int .i64 k, .int .i64 n, .string s] 23)).alloc (.cells #[.int .i64 k2, .int .i64 n2, .string s2] 23)) (w.heap.size + 1) 23 #[.int .i64 k2, .int .i64 n2, .string s2] := own_two _
  cases c
  · go_enter Tryz.func23, Tryz.ntmps23
    go_wp2_with fail
    refine (hC _).mono ?_
    rintro e w1 ⟨rfl, hb1⟩
    go_wp2
    go_ret
    refine ⟨rfl, ?_⟩
    (repeat' (first | (with_reducible exact Below.refl _ _) | (with_reducible assumption) | (with_reducible refine Below.alloc ?_ ?_ _) | (with_reducible refine Below.drew ?_) | (with_reducible refine Below.setCell ?_ ?_ _) | (with_reducible refine Below.trans ?_ (Below.mono (by assumption) ?_)) | go_size))
  · go_enter Tryz.func23, Tryz.ntmps23
    go_wp2_with fail
    refine (hC _).mono ?_
    rintro e w1 ⟨rfl, hb1⟩
    have z1 := hb1.size
    simp only [World.size_alloc] at z1
    have a1 := oA.below hb1 (by simp only [World.size_alloc]; omega)
    have b1 := oB.below hb1 (by simp only [World.size_alloc]; omega)
    have d0a := a1.cell 0; have e0a := a1.free 0; have d1a := a1.cell 1; have e1a := a1.free 1; have d2a := a1.cell 2; have e2a := a1.free 2; (try simp only [List.getElem?_toArray, List.getElem?_cons_zero, List.getElem?_cons_succ] at d0a d1a d2a)
    have d0b := b1.cell 0; have e0b := b1.free 0; have d1b := b1.cell 1; have e1b := b1.free 1; have d2b := b1.cell 2; have e2b := b1.free 2; (try simp only [List.getElem?_toArray, List.getElem?_cons_zero, List.getElem?_cons_succ] at d0b d1b d2b)
    go_wp2_with fail
    refine (hM _).mono ?_
    rintro e w2 ⟨rfl, hb2⟩
    by_cases hm : m = 0
    all_goals
      go_wp2_with fail
      refine (hT _ _).mono ?_
      rintro e w3 ⟨rfl, rfl⟩
      go_wp2
      go_ret
      refine ⟨by first | rfl | simp [tV, *], ?_⟩
      (repeat' (first | (with_reducible exact Below.refl _ _) | (with_reducible assumption) | (with_reducible refine Below.alloc ?_ ?_ _) | (with_reducible refine Below.drew ?_) | (with_reducible refine Below.setCell ?_ ?_ _) | (with_reducible refine Below.trans ?_ (Below.mono (by assumption) ?_)) | go_size))
set_option maxRecDepth 100000 in
set_option maxHeartbeats 1600000 in
theorem pLess_any (k n : Int) (s : ByteArray) (k2 n2 : Int) (s2 : ByteArray) (w : World) :
    Calls Tryz.prog 25 #[vV k n s, vV k2 n2 s2] w fun e w' => e = .returned (.int .i64 (lesV k n s k2 n2 s2)) ∧ Below w.heap.size w w' := by
  unfold lesV
  have hC := fun W => pComparable_any k n s k2 n2 s2 W
  have hM := fun W => pCompare_any k n s k2 n2 s2 W
  have hT := fun b W => truthOf_any b W
  generalize cpbV k k2 = c at *
  generalize cmpV k n s k2 n2 s2 = m at *
  unfold vV at *
  have oA : Own ((w.alloc (.cells #[.int .i64 k, .int .i64 n, .string s] 23)).alloc (.cells #[.int .i64 k2, .int .i64 n2, .string s2] 23)) w.heap.size 23 #[.int .i64 k, .int .i64 n, .string s] := (Own.new _ _ _).alloc _
  have oB : Own ((w.alloc (.cells #[.int .i64 k, .int .i64 n, .string s] 23)).alloc (.cells #[.int .i64 k2, .int .i64 n2, .string s2] 23)) (w.heap.size + 1) 23 #[.int .i64 k2, .int .i64 n2, .string s2] := own_two _
  cases c
  · go_enter Tryz.func25, Tryz.ntmps25
    go_wp2_with fail
    refine (hC _).mono ?_
    rintro e w1 ⟨rfl, hb1⟩
    go_wp2
    go_ret
    refine ⟨rfl, ?_⟩
    (repeat' (first | (with_reducible exact Below.refl _ _) | (with_reducible assumption) | (with_reducible refine Below.alloc ?_ ?_ _) | (with_reducible refine Below.drew ?_) | (with_reducible refine Below.setCell ?_ ?_ _) | (with_reducible refine Below.trans ?_ (Below.mono (by assumption) ?_)) | go_size))
  · go_enter Tryz.func25, Tryz.ntmps25
    go_wp2_with fail
    refine (hC _).mono ?_
    rintro e w1 ⟨rfl, hb1⟩
    have z1 := hb1.size
    simp only [World.size_alloc] at z1
    have a1 := oA.below hb1 (by simp only [World.size_alloc]; omega)
    have b1 := oB.below hb1 (by simp only [World.size_alloc]; omega)
    have d0a := a1.cell 0; have e0a := a1.free 0; have d1a := a1.cell 1; have e1a := a1.free 1; have d2a := a1.cell 2; have e2a := a1.free 2; (try simp only [List.getElem?_toArray, List.getElem?_cons_zero, List.getElem?_cons_succ] at d0a d1a d2a)
    have d0b := b1.cell 0; have e0b := b1.free 0; have d1b := b1.cell 1; have e1b := b1.free 1; have d2b := b1.cell 2; have e2b := b1.free 2; (try simp only [List.getElem?_toArray, List.getElem?_cons_zero, List.getElem?_cons_succ] at d0b d1b d2b)
    go_wp2_with fail
    refine (hM _).mono ?_
    rintro e w2 ⟨rfl, hb2⟩
    by_cases hm : m < 0
    all_goals
      go_wp2_with fail
      refine (hT _ _).mono ?_
      rintro e w3 ⟨rfl, rfl⟩
      go_wp2
      go_ret
      refine ⟨by first | rfl | simp [tV, *], ?_⟩
      (repeat' (first | (with_reducible exact Below.refl _ _) | (with_reducible assumption) | (with_reducible refine Below.alloc ?_ ?_ _) | (with_reducible refine Below.drew ?_) | (with_reducible refine Below.setCell ?_ ?_ _) | (with_reducible refine Below.trans ?_ (Below.mono (by assumption) ?_)) | go_size))
set_option maxRecDepth 100000 in
set_option maxHeartbeats 1600000 in
theorem rEqual_any (k n : Int) (s : ByteArray) (k2 n2 : Int) (s2 : ByteArray) (w : World) :
    Calls Tryz.prog 24 #[vV k n s, vV k2 n2 s2] w fun e w' => e = .returned (.int .i64 (eqlV k n s k2 n2 s2)) ∧ Below w.heap.size w w' := by
  unfold eqlV
  have hM := fun W => rCompare_any k n s k2 n2 s2 W
  have hT := fun b W => rtruth_any k n s k2 n2 s2 b W
  generalize cmpV k n s k2 n2 s2 = m at *
  unfold vV at *
  have bW := ((Below.refl w.heap.size w).alloc (Nat.le_refl _) (.cells #[.int .i64 k, .int .i64 n, .string s] 23)).alloc (by simp) (.cells #[.int .i64 k2, .int .i64 n2, .string s2] 23)
  have oA : Own ((w.alloc (.cells #[.int .i64 k, .int .i64 n, .string s] 23)).alloc (.cells #[.int .i64 k2, .int .i64 n2, .string s2] 23)) w.heap.size 23 #[.int .i64 k, .int .i64 n, .string s] := (Own.new _ _ _).alloc _
  have oB : Own ((w.alloc (.cells #[.int .i64 k, .int .i64 n, .string s] 23)).alloc (.cells #[.int .i64 k2, .int .i64 n2, .string s2] 23)) (w.heap.size + 1) 23 #[.int .i64 k2, .int .i64 n2, .string s2] := own_two _
  go_enter Tryz.func24, Tryz.ntmps24
  go_wp2_with fail
  have sA := oA.lt
  have sB := oB.lt
  have hz : w.heap.size ≤ ((w.alloc (.cells #[.int .i64 k, .int .i64 n, .string s] 23)).alloc (.cells #[.int .i64 k2, .int .i64 n2, .string s2] 23)).heap.size := by simp only [World.size_alloc]; omega
  generalize (w.alloc (.cells #[.int .i64 k, .int .i64 n, .string s] 23)).alloc (.cells #[.int .i64 k2, .int .i64 n2, .string s2] 23) = W at *
  obtain ⟨f0, f1, f2⟩ := val_cells sA oA
  obtain ⟨g0, g1, g2⟩ := val_cells sB oB
  by_cases hm : m = 0
  · have HD : Hid (decide (m = 0) = true) := Lib.hid (decide_eq_true hm)
    (refine wp_region_after (by kernel_rfl) (by kernel_rfl) ?_; (repeat (go_big_quiet_step ((first | (go_at_call 22; exact calls_after (hM _)) | (go_at_call 50; exact calls_after (hT _ _)))))); refine wpQuiet_nil ?_; intro wq hw0; obtain ⟨⟨wq0, hbq⟩, hw1⟩ := hw0; subst hw1; (try dsimp only))
    go_wp2
    go_ret
    exact ⟨by first | (rw [HD.out]; done) | (rw [HD.out]; rfl) | rfl | simp [HD.out], bW.trans (hbq.mono hz)⟩
  · have HD : Hid (decide (m = 0) = false) := Lib.hid (decide_eq_false hm)
    (refine wp_region_after (by kernel_rfl) (by kernel_rfl) ?_; (repeat (go_big_quiet_step ((first | (go_at_call 22; exact calls_after (hM _)) | (go_at_call 50; exact calls_after (hT _ _)))))); refine wpQuiet_nil ?_; intro wq hw0; obtain ⟨⟨wq0, hbq⟩, hw1⟩ := hw0; subst hw1; (try dsimp only))
    go_wp2
    go_ret
    exact ⟨by first | (rw [HD.out]; done) | (rw [HD.out]; rfl) | rfl | simp [HD.out], bW.trans (hbq.mono hz)⟩
set_option maxRecDepth 100000 in
set_option maxHeartbeats 1600000 in
theorem rLess_any (k n : Int) (s : ByteArray) (k2 n2 : Int) (s2 : ByteArray) (w : World) :
    Calls Tryz.prog 26 #[vV k n s, vV k2 n2 s2] w fun e w' => e = .returned (.int .i64 (lesV k n s k2 n2 s2)) ∧ Below w.heap.size w w' := by
  unfold lesV
  have hM := fun W => rCompare_any k n s k2 n2 s2 W
  have hT := fun b W => rtruth_any k n s k2 n2 s2 b W
  generalize cmpV k n s k2 n2 s2 = m at *
  unfold vV at *
  have bW := ((Below.refl w.heap.size w).alloc (Nat.le_refl _) (.cells #[.int .i64 k, .int .i64 n, .string s] 23)).alloc (by simp) (.cells #[.int .i64 k2, .int .i64 n2, .string s2] 23)
  have oA : Own ((w.alloc (.cells #[.int .i64 k, .int .i64 n, .string s] 23)).alloc (.cells #[.int .i64 k2, .int .i64 n2, .string s2] 23)) w.heap.size 23 #[.int .i64 k, .int .i64 n, .string s] := (Own.new _ _ _).alloc _
  have oB : Own ((w.alloc (.cells #[.int .i64 k, .int .i64 n, .string s] 23)).alloc (.cells #[.int .i64 k2, .int .i64 n2, .string s2] 23)) (w.heap.size + 1) 23 #[.int .i64 k2, .int .i64 n2, .string s2] := own_two _
  go_enter Tryz.func26, Tryz.ntmps26
  go_wp2_with fail
  have sA := oA.lt
  have sB := oB.lt
  have hz : w.heap.size ≤ ((w.alloc (.cells #[.int .i64 k, .int .i64 n, .string s] 23)).alloc (.cells #[.int .i64 k2, .int .i64 n2, .string s2] 23)).heap.size := by simp only [World.size_alloc]; omega
  generalize (w.alloc (.cells #[.int .i64 k, .int .i64 n, .string s] 23)).alloc (.cells #[.int .i64 k2, .int .i64 n2, .string s2] 23) = W at *
  obtain ⟨f0, f1, f2⟩ := val_cells sA oA
  obtain ⟨g0, g1, g2⟩ := val_cells sB oB
  by_cases hm : m < 0
  · have HD : Hid (decide (m < 0) = true) := Lib.hid (decide_eq_true hm)
    (refine wp_region_after (by kernel_rfl) (by kernel_rfl) ?_; (repeat (go_big_quiet_step ((first | (go_at_call 22; exact calls_after (hM _)) | (go_at_call 50; exact calls_after (hT _ _)))))); refine wpQuiet_nil ?_; intro wq hw0; obtain ⟨⟨wq0, hbq⟩, hw1⟩ := hw0; subst hw1; (try dsimp only))
    go_wp2
    go_ret
    exact ⟨by first | (rw [HD.out]; done) | (rw [HD.out]; rfl) | rfl | simp [HD.out], bW.trans (hbq.mono hz)⟩
  · have HD : Hid (decide (m < 0) = false) := Lib.hid (decide_eq_false hm)
    (refine wp_region_after (by kernel_rfl) (by kernel_rfl) ?_; (repeat (go_big_quiet_step ((first | (go_at_call 22; exact calls_after (hM _)) | (go_at_call 50; exact calls_after (hT _ _)))))); refine wpQuiet_nil ?_; intro wq hw0; obtain ⟨⟨wq0, hbq⟩, hw1⟩ := hw0; subst hw1; (try dsimp only))
    go_wp2
    go_ret
    exact ⟨by first | (rw [HD.out]; done) | (rw [HD.out]; rfl) | rfl | simp [HD.out], bW.trans (hbq.mono hz)⟩
end Go.Proofs.YthjnkekkjjcnfaaGreatDoor
