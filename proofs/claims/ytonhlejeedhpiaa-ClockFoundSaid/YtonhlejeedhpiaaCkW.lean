/-
  Contract of the statements' own works: the chapter's examples. Conditions: none.
-/
import Derived.Test.YtonhlejeedhpiaaCkX
import Derived.Test.YtonhlejeedhpiaaCkL
import Derived.Test.YtonhlejeedhpiaaCkT
import Derived.Test.YtonhlejeedhpiaaCkE
import Derived.WalkKit
import Derived.WalkSpells
import Derived.WalkLawsBesides
import Derived.Deep.QuietTactic
import Derived.BigQuiet
import Derived.Handy
import Derived.Lib.Hide
namespace Go.Proofs.Ytonhlejeedhpiaa
open Go.RowKit

theorem ex_next : nxV 80 80 50 = .tuple #[.agg #[.int .i64 81, .int .i64 50], .int .i64 81, .int .i64 0] := by kernel_rfl
theorem ex_repE : rpE 0 [5, 3, 9] = 0 := by kernel_rfl
theorem ex_rep : repL [5, 3, 9] = [(5, 5), (6, 3), (9, 9)] := by kernel_rfl
theorem ex_lat : lat 8 [(5, 5), (6, 3), (9, 9)] = some (6, 3) := by kernel_rfl
theorem ex_stp : stp [(5, 5), (6, 3), (9, 9)] 3 = [1] := by kernel_rfl
theorem ex_shown : shL [(5, 5), (6, 3), (9, 9)] 4 = [(0, 5), (6, 9)] := by kernel_rfl
theorem ex_behind : bhd 80 80 50 = 30 := by kernel_rfl
theorem rdI_new (w : World) (t : TypeId) (l : List Int) (hl : l.length ≤ 9223372036854775807) : RdI (w.alloc (.cells (intsV l).toArray t)) 0 (w.alloc (.cells (intsV l).toArray t)).heap.size (.slice (some ⟨w.heap.size, 0, none⟩) l.length l.length) l := by
  refine ⟨_, l.length, rfl, hl, fun k x hk => ⟨_, rfl, Nat.zero_le _, by simp, ?_⟩⟩
  rw [plain_add, (Own.new w t (intsV l).toArray).cell k]
  unfold intsV
  rw [List.getElem?_toArray, List.getElem?_map, hk]; rfl
theorem rdP_new (w : World) (t : TypeId) (l : List (Int × Int)) (hl : l.length ≤ 9223372036854775807) : RdP (w.alloc (.cells (flatP l).toArray t)) 0 (w.alloc (.cells (flatP l).toArray t)).heap.size (.slice (some ⟨w.heap.size, 0, none⟩) l.length l.length) l := by
  refine ⟨_, l.length, rfl, hl, fun k x hk => ⟨_, rfl, Nat.zero_le _, by simp, ?_, ?_⟩⟩
  · rw [plain_add, (Own.new w t (flatP l).toArray).cell (k * 2), List.getElem?_toArray]
    exact (flatP_get l k x hk).1
  · rw [plain_add, (Own.new w t (flatP l).toArray).cell (k * 2 + 1), List.getElem?_toArray]
    exact (flatP_get l k x hk).2

set_option maxRecDepth 100000 in
set_option maxHeartbeats 3200000 in
theorem works_any (w : World) :
    Calls Try.prog 14 #[] w fun e w' => e = .returned (.bool true) ∧ Below w.heap.size w w' := by
  go_enter Try.func14, Try.ntmps14
  go_wp2_with fail
  have hx1 := pNext_any 80 80 50 w
  rw [ex_next] at hx1
  refine hx1.mono ?_
  rintro e w1 ⟨rfl, hb1⟩
  clear hx1
  have Z1 := hb1.size
  go_wp2_with fail
  have hI := rdI_new (w1.alloc (.cells #[.int .i64 81, .int .i64 50] 23)) 3 [5, 3, 9] (by decide)
  have e1 : (w1.alloc (.cells #[.int .i64 81, .int .i64 50] 23)).heap.size = w1.heap.size + 1 := World.size_alloc ..
  rw [e1] at hI
  clear e1
  have oC := (Own.new w1 23 #[.int .i64 81, .int .i64 50]).alloc (.cells #[.int .i64 5, .int .i64 3, .int .i64 9] 3)
  have B2 : Below w.heap.size w ((w1.alloc (.cells #[.int .i64 81, .int .i64 50] 23)).alloc (.cells #[.int .i64 5, .int .i64 3, .int .i64 9] 3)) := (hb1.alloc Z1 _).alloc (by simp; omega) _
  have hx2 := pReplay_any _ [5, 3, 9] _ 0 hI
  refine Calls.mono (show Calls Try.prog 25 #[.slice (some ⟨w1.heap.size + 1, 0, none⟩) 3 3] ((w1.alloc (.cells #[.int .i64 81, .int .i64 50] 23)).alloc (.cells #[.int .i64 5, .int .i64 3, .int .i64 9] 3)) _ from hx2) ?_
  rintro e w3 ⟨v3, rfl, hr3, hb3⟩
  rw [ex_repE]
  rw [ex_rep] at hr3
  have o3 := Own.below oC hb3 oC.lt
  have B3 := B2.trans (hb3.mono B2.size)
  have Z3 := B3.size
  have H3 := Lib.hid (hr3.more (Nat.le_refl _) (Nat.zero_le _))
  have L3 := o3.lt
  clear hx2 hI oC B2 hb3 hr3 hb1
  go_wp2_with fail
  have hx4 := pLatest_any v3 _ 8 _ _ H3.out
  rw [ex_lat] at hx4
  simp only [latV] at hx4
  refine hx4.mono ?_
  rintro e w4 ⟨rfl, hb4⟩
  have o4 := Own.below o3 hb4 L3
  have H4 := Lib.hid (H3.out.step hb4 (Nat.le_refl _))
  have B4 := B3.trans (hb4.mono Z3)
  have Z4 := B4.size
  have L4 := o4.lt
  clear hx4 o3 H3 B3 hb4
  have oC5 := o4.alloc (.cells #[.int .i64 6, .int .i64 3] 34)
  have oS5 := Own.new w4 34 #[.int .i64 6, .int .i64 3]
  have b5 : Below w4.heap.size w4 (w4.alloc (.cells #[.int .i64 6, .int .i64 3] 34)) := (Below.refl _ _).alloc (Nat.le_refl _) _
  have H5 := Lib.hid (H4.out.step b5 (Nat.le_refl _))
  have B5 := B4.trans (b5.mono Z4)
  have e5 : (w4.alloc (.cells #[.int .i64 6, .int .i64 3] 34)).heap.size = w4.heap.size + 1 := World.size_alloc ..
  have p0 : (w4.alloc (.cells #[.int .i64 6, .int .i64 3] 34)).cell? ⟨w1.heap.size, 0, none⟩ = some (.int .i64 81) := oC5.cell 0
  have p1 : (w4.alloc (.cells #[.int .i64 6, .int .i64 3] 34)).cell? ⟨w1.heap.size, 1, none⟩ = some (.int .i64 50) := oC5.cell 1
  clear H4 B4 o4
  go_wp2_with fail
  clear p0 p1
  have hS := rdP_new (w4.alloc (.cells #[.int .i64 6, .int .i64 3] 34)) 34 [(5, 5), (6, 3), (9, 9)] (by decide)
  have b6 : Below (w4.alloc (.cells #[.int .i64 6, .int .i64 3] 34)).heap.size (w4.alloc (.cells #[.int .i64 6, .int .i64 3] 34)) ((w4.alloc (.cells #[.int .i64 6, .int .i64 3] 34)).alloc (.cells (flatP [(5, 5), (6, 3), (9, 9)]).toArray 34)) := (Below.refl _ _).alloc (Nat.le_refl _) _
  have hx6 := sameS_any v3 _ _ _ _ _ _ (H5.out.step b6 (Nat.le_refl _)) hS
  rw [decide_eq_true rfl, e5] at hx6
  refine Calls.mono (show Calls Try.prog 27 #[v3, .slice (some ⟨w4.heap.size + 1, 0, none⟩) 3 3] ((w4.alloc (.cells #[.int .i64 6, .int .i64 3] 34)).alloc (.cells #[.int .i64 5, .int .i64 5, .int .i64 6, .int .i64 3, .int .i64 9, .int .i64 9] 34)) _ from hx6) ?_
  rintro e w6 ⟨rfl, hb6⟩
  have c6 := b6.trans (hb6.mono b6.size)
  have oS6 := Own.below oS5 c6 oS5.lt
  have H6 := Lib.hid (H5.out.step c6 (Nat.le_refl _))
  have B6 := B5.trans (c6.mono B5.size)
  have Z6 := B6.size
  clear hx6 hS H5 B5 oS5 oC5 hb6 b6 c6 b5 e5
  have p0 : w6.cell? ⟨w4.heap.size, 0, none⟩ = some (.int .i64 6) := oS6.cell 0
  have p1 : w6.cell? ⟨w4.heap.size, 1, none⟩ = some (.int .i64 3) := oS6.cell 1
  go_wp2_with fail
  clear p0 p1 oS6
  have hx7 := pSteps_any v3 _ _ _ H6.out (by decide)
  rw [show ([(5, 5), (6, 3), (9, 9)] : List (Int × Int)).length = 3 from rfl, ex_stp] at hx7
  refine hx7.mono ?_
  rintro e w7 ⟨v7, rfl, hr7, hb7⟩
  have H7 := Lib.hid (H6.out.step hb7 (Nat.le_refl _))
  have B7 := B6.trans (hb7.mono Z6)
  have Z7 := B7.size
  have R7 := Lib.hid hr7
  clear hx7 H6 B6 hb7 hr7
  go_wp2_with fail
  have hI := rdI_new w7 3 [1] (by decide)
  have b8 : Below w7.heap.size w7 (w7.alloc (.cells (intsV [1]).toArray 3)) := (Below.refl _ _).alloc (Nat.le_refl _) _
  have hx8 := sameI_any v7 _ _ _ _ _ _ (R7.out.step b8 (Nat.le_refl _)) hI
  rw [decide_eq_true rfl] at hx8
  refine Calls.mono (show Calls Try.prog 19 #[v7, .slice (some ⟨w7.heap.size, 0, none⟩) 1 1] (w7.alloc (.cells #[.int .i64 1] 3)) _ from hx8) ?_
  rintro e w8 ⟨rfl, hb8⟩
  have c8 := b8.trans (hb8.mono b8.size)
  have H8 := Lib.hid (H7.out.step c8 (Nat.le_refl _))
  have B8 := B7.trans (c8.mono Z7)
  have Z8 := B8.size
  clear hx8 hI H7 B7 R7 hb8 b8 c8
  go_wp2_with fail
  have hx9 := pShown_any v3 _ 4 _ _ H8.out
  rw [ex_shown] at hx9
  refine hx9.mono ?_
  rintro e w9 ⟨v9, rfl, hr9, hb9⟩
  have B9 := B8.trans (hb9.mono Z8)
  have Z9 := B9.size
  have R9 := Lib.hid hr9
  clear hx9 H8 B8 hb9 hr9
  go_wp2_with fail
  have hP := rdP_new w9 49 [(0, 5), (6, 9)] (by decide)
  have b10 : Below w9.heap.size w9 (w9.alloc (.cells (flatP [(0, 5), (6, 9)]).toArray 49)) := (Below.refl _ _).alloc (Nat.le_refl _) _
  have hx10 := sameP_any v9 _ _ _ _ _ _ (R9.out.step b10 (Nat.le_refl _)) hP
  rw [decide_eq_true rfl] at hx10
  refine Calls.mono (show Calls Try.prog 22 #[v9, .slice (some ⟨w9.heap.size, 0, none⟩) 2 2] (w9.alloc (.cells #[.int .i64 0, .int .i64 5, .int .i64 6, .int .i64 9] 49)) _ from hx10) ?_
  rintro e w10 ⟨rfl, hb10⟩
  have B10 := B9.trans ((b10.trans (hb10.mono b10.size)).mono Z9)
  have Z10 := B10.size
  clear hx10 hP B9 R9 hb10 b10
  go_wp2_with fail
  have hx11 := pBehind_any 80 80 50 w10
  rw [ex_behind] at hx11
  refine hx11.mono ?_
  rintro e w11 ⟨rfl, hb11⟩
  go_wp2
  go_ret
  exact ⟨rfl, B10.trans (hb11.mono Z10)⟩
end Go.Proofs.Ytonhlejeedhpiaa
