import Derived.Test.YthnmcpfmljibeaaPI
import Derived.WalkKit
import Derived.WalkSpells
import Derived.WalkLawsBesides
import Derived.Deep.QuietTactic
import Derived.BigQuiet
import Derived.Handy
import Derived.Lib.Hide
/-
  narrowed: an interval narrowed by a condition. Conditions: a value that is valid.
-/
namespace Go.Proofs.Ythnmcpfmljibeaa
set_option maxRecDepth 100000
set_option linter.unusedVariables false
set_option linter.unusedSimpArgs false
open Go.RowKit

def cndS (c : Cnd) : Value := .agg #[.int .i64 c.op, .int .i64 c.col, .int .i64 c.v.1, .int .i64 c.v.2.1, .string c.v.2.2]
set_option maxRecDepth 100000 in
set_option maxHeartbeats 6400000 in
theorem nar_diff (a1 a2 : Int) (a3 : ByteArray) (ls : Bool) (b1 b2 : Int) (b3 : ByteArray) (hs im : Bool) (op cl k n : Int) (t : ByteArray) (hk : k ≠ a1) (w : World) :
    Calls Try.prog 39 #[.agg #[.int .i64 a1, .int .i64 a2, .string a3, .bool ls, .int .i64 b1, .int .i64 b2, .string b3, .bool hs, .bool im], .agg #[.int .i64 op, .int .i64 cl, .int .i64 k, .int .i64 n, .string t]] w fun e w' => e = .returned (.agg #[.int .i64 a1, .int .i64 a2, .string a3, .bool ls, .int .i64 b1, .int .i64 b2, .string b3, .bool hs, .bool true]) ∧ Below w.heap.size w w' := by
  have hkb : (k == a1) = false := by rw [beq_eq_false_iff_ne]; exact hk
  go_enter Try.func39, Try.ntmps39
  go_wp2
  have HO0 := Lib.hid (show Own (((w.alloc (.cells #[.int .i64 a1, .int .i64 a2, .string a3, .bool ls, .int .i64 b1, .int .i64 b2, .string b3, .bool hs, .bool true] 70)).alloc (.cells #[.int .i64 op, .int .i64 cl, .int .i64 k, .int .i64 n, .string t] 62)).alloc (.cells #[.int .i64 a1, .int .i64 a2, .string a3, .bool ls, .int .i64 b1, .int .i64 b2, .string b3, .bool hs, .bool true] 70)) (w.heap.size) 70 #[.int .i64 a1, .int .i64 a2, .string a3, .bool ls, .int .i64 b1, .int .i64 b2, .string b3, .bool hs, .bool true] from by have h := Own.new w 70 #[.int .i64 a1, .int .i64 a2, .string a3, .bool ls, .int .i64 b1, .int .i64 b2, .string b3, .bool hs, .bool true]; (try simp only [World.size_alloc] at h); exact ((h.alloc (.cells #[.int .i64 op, .int .i64 cl, .int .i64 k, .int .i64 n, .string t] 62)).alloc (.cells #[.int .i64 a1, .int .i64 a2, .string a3, .bool ls, .int .i64 b1, .int .i64 b2, .string b3, .bool hs, .bool true] 70)))
  have HO1 := Lib.hid (show Own (((w.alloc (.cells #[.int .i64 a1, .int .i64 a2, .string a3, .bool ls, .int .i64 b1, .int .i64 b2, .string b3, .bool hs, .bool true] 70)).alloc (.cells #[.int .i64 op, .int .i64 cl, .int .i64 k, .int .i64 n, .string t] 62)).alloc (.cells #[.int .i64 a1, .int .i64 a2, .string a3, .bool ls, .int .i64 b1, .int .i64 b2, .string b3, .bool hs, .bool true] 70)) (w.heap.size + 1) 62 #[.int .i64 op, .int .i64 cl, .int .i64 k, .int .i64 n, .string t] from by have h := Own.new (w.alloc (.cells #[.int .i64 a1, .int .i64 a2, .string a3, .bool ls, .int .i64 b1, .int .i64 b2, .string b3, .bool hs, .bool true] 70)) 62 #[.int .i64 op, .int .i64 cl, .int .i64 k, .int .i64 n, .string t]; (try simp only [World.size_alloc] at h); exact (h.alloc (.cells #[.int .i64 a1, .int .i64 a2, .string a3, .bool ls, .int .i64 b1, .int .i64 b2, .string b3, .bool hs, .bool true] 70)))
  have HO2 := Lib.hid (show Own (((w.alloc (.cells #[.int .i64 a1, .int .i64 a2, .string a3, .bool ls, .int .i64 b1, .int .i64 b2, .string b3, .bool hs, .bool true] 70)).alloc (.cells #[.int .i64 op, .int .i64 cl, .int .i64 k, .int .i64 n, .string t] 62)).alloc (.cells #[.int .i64 a1, .int .i64 a2, .string a3, .bool ls, .int .i64 b1, .int .i64 b2, .string b3, .bool hs, .bool true] 70)) (w.heap.size + 1 + 1) 70 #[.int .i64 a1, .int .i64 a2, .string a3, .bool ls, .int .i64 b1, .int .i64 b2, .string b3, .bool hs, .bool true] from by have h := Own.new ((w.alloc (.cells #[.int .i64 a1, .int .i64 a2, .string a3, .bool ls, .int .i64 b1, .int .i64 b2, .string b3, .bool hs, .bool true] 70)).alloc (.cells #[.int .i64 op, .int .i64 cl, .int .i64 k, .int .i64 n, .string t] 62)) 70 #[.int .i64 a1, .int .i64 a2, .string a3, .bool ls, .int .i64 b1, .int .i64 b2, .string b3, .bool hs, .bool true]; (try simp only [World.size_alloc] at h); exact h)
  have HB := Lib.hid (show Below w.heap.size w (((w.alloc (.cells #[.int .i64 a1, .int .i64 a2, .string a3, .bool ls, .int .i64 b1, .int .i64 b2, .string b3, .bool hs, .bool true] 70)).alloc (.cells #[.int .i64 op, .int .i64 cl, .int .i64 k, .int .i64 n, .string t] 62)).alloc (.cells #[.int .i64 a1, .int .i64 a2, .string a3, .bool ls, .int .i64 b1, .int .i64 b2, .string b3, .bool hs, .bool true] 70)) from ((bel_mk w (.cells #[.int .i64 a1, .int .i64 a2, .string a3, .bool ls, .int .i64 b1, .int .i64 b2, .string b3, .bool hs, .bool true] 70)).trans ((bel_mk (w.alloc (.cells #[.int .i64 a1, .int .i64 a2, .string a3, .bool ls, .int .i64 b1, .int .i64 b2, .string b3, .bool hs, .bool true] 70)) (.cells #[.int .i64 op, .int .i64 cl, .int .i64 k, .int .i64 n, .string t] 62)).mono (by simp only [World.size_alloc]; omega))).trans ((bel_mk ((w.alloc (.cells #[.int .i64 a1, .int .i64 a2, .string a3, .bool ls, .int .i64 b1, .int .i64 b2, .string b3, .bool hs, .bool true] 70)).alloc (.cells #[.int .i64 op, .int .i64 cl, .int .i64 k, .int .i64 n, .string t] 62)) (.cells #[.int .i64 a1, .int .i64 a2, .string a3, .bool ls, .int .i64 b1, .int .i64 b2, .string b3, .bool hs, .bool true] 70)).mono (by simp only [World.size_alloc]; omega)))
  (try simp only [Exit.inBlock, Exit.then]); refine bodyPost_ret_by (results_cell_row1 (by rfl) _ _ (w.heap.size + 1 + 1) _ (by rfl) (load_itv HO2.out)) ?_ ?_; (focus rfl); (try dsimp only)
  exact ⟨rfl, HB.out⟩
set_option maxRecDepth 100000 in
set_option maxHeartbeats 6400000 in
theorem nar_11 (a1 a2 : Int) (a3 : ByteArray) (ls : Bool) (b1 b2 : Int) (b3 : ByteArray) (hs im : Bool) (cl n : Int) (t : ByteArray) (hv : -1125899906842624 ≤ n ∧ n ≤ 1125899906842624) (w : World) :
    Calls Try.prog 39 #[.agg #[.int .i64 a1, .int .i64 a2, .string a3, .bool ls, .int .i64 b1, .int .i64 b2, .string b3, .bool hs, .bool im], .agg #[.int .i64 11, .int .i64 cl, .int .i64 a1, .int .i64 n, .string t]] w fun e w' => e = .returned (itvV (abvI ⟨(a1, a2, a3), ls, (b1, b2, b3), hs, im⟩ (beyI (a1, n, t) 1).1 (beyI (a1, n, t) 1).2)) ∧ Below w.heap.size w w' := by
  have HY := Lib.hid (fun W => pBey_any (a1, n, t) 1 (by dsimp only; omega) (by omega) W)
  have HC := Lib.hid (fun W => pAbv_any ⟨(a1, a2, a3), ls, (b1, b2, b3), hs, im⟩ (beyI (a1, n, t) 1).1 (beyI (a1, n, t) 1).2 W)
  generalize abvI ⟨(a1, a2, a3), ls, (b1, b2, b3), hs, im⟩ (beyI (a1, n, t) 1).1 (beyI (a1, n, t) 1).2 = r at *
  generalize beyI (a1, n, t) 1 = y at *
  obtain ⟨⟨y1, y2, y3⟩, ys⟩ := y
  unfold itvV bndV valV at *
  dsimp only at *
  have HO0 := Lib.hid (show Own ((((w.alloc (.cells #[.int .i64 a1, .int .i64 a2, .string a3, .bool ls, .int .i64 b1, .int .i64 b2, .string b3, .bool hs, .bool im] 70)).alloc (.cells #[.int .i64 11, .int .i64 cl, .int .i64 a1, .int .i64 n, .string t] 62)).alloc (.cells #[.int .i64 0, .int .i64 0, .string ⟨#[]⟩, .bool false, .int .i64 0, .int .i64 0, .string ⟨#[]⟩, .bool false, .bool false] 70)).alloc (.cells #[.int .i64 a1, .int .i64 n, .string t, .bool false] 68)) (w.heap.size) 70 #[.int .i64 a1, .int .i64 a2, .string a3, .bool ls, .int .i64 b1, .int .i64 b2, .string b3, .bool hs, .bool im] from by have h := Own.new w 70 #[.int .i64 a1, .int .i64 a2, .string a3, .bool ls, .int .i64 b1, .int .i64 b2, .string b3, .bool hs, .bool im]; (try simp only [World.size_alloc] at h); exact (((h.alloc (.cells #[.int .i64 11, .int .i64 cl, .int .i64 a1, .int .i64 n, .string t] 62)).alloc (.cells #[.int .i64 0, .int .i64 0, .string ⟨#[]⟩, .bool false, .int .i64 0, .int .i64 0, .string ⟨#[]⟩, .bool false, .bool false] 70)).alloc (.cells #[.int .i64 a1, .int .i64 n, .string t, .bool false] 68)))
  have HO1 := Lib.hid (show Own ((((w.alloc (.cells #[.int .i64 a1, .int .i64 a2, .string a3, .bool ls, .int .i64 b1, .int .i64 b2, .string b3, .bool hs, .bool im] 70)).alloc (.cells #[.int .i64 11, .int .i64 cl, .int .i64 a1, .int .i64 n, .string t] 62)).alloc (.cells #[.int .i64 0, .int .i64 0, .string ⟨#[]⟩, .bool false, .int .i64 0, .int .i64 0, .string ⟨#[]⟩, .bool false, .bool false] 70)).alloc (.cells #[.int .i64 a1, .int .i64 n, .string t, .bool false] 68)) (w.heap.size + 1) 62 #[.int .i64 11, .int .i64 cl, .int .i64 a1, .int .i64 n, .string t] from by have h := Own.new (w.alloc (.cells #[.int .i64 a1, .int .i64 a2, .string a3, .bool ls, .int .i64 b1, .int .i64 b2, .string b3, .bool hs, .bool im] 70)) 62 #[.int .i64 11, .int .i64 cl, .int .i64 a1, .int .i64 n, .string t]; (try simp only [World.size_alloc] at h); exact ((h.alloc (.cells #[.int .i64 0, .int .i64 0, .string ⟨#[]⟩, .bool false, .int .i64 0, .int .i64 0, .string ⟨#[]⟩, .bool false, .bool false] 70)).alloc (.cells #[.int .i64 a1, .int .i64 n, .string t, .bool false] 68)))
  have HO2 := Lib.hid (show Own ((((w.alloc (.cells #[.int .i64 a1, .int .i64 a2, .string a3, .bool ls, .int .i64 b1, .int .i64 b2, .string b3, .bool hs, .bool im] 70)).alloc (.cells #[.int .i64 11, .int .i64 cl, .int .i64 a1, .int .i64 n, .string t] 62)).alloc (.cells #[.int .i64 0, .int .i64 0, .string ⟨#[]⟩, .bool false, .int .i64 0, .int .i64 0, .string ⟨#[]⟩, .bool false, .bool false] 70)).alloc (.cells #[.int .i64 a1, .int .i64 n, .string t, .bool false] 68)) (w.heap.size + 1 + 1) 70 #[.int .i64 0, .int .i64 0, .string ⟨#[]⟩, .bool false, .int .i64 0, .int .i64 0, .string ⟨#[]⟩, .bool false, .bool false] from by have h := Own.new ((w.alloc (.cells #[.int .i64 a1, .int .i64 a2, .string a3, .bool ls, .int .i64 b1, .int .i64 b2, .string b3, .bool hs, .bool im] 70)).alloc (.cells #[.int .i64 11, .int .i64 cl, .int .i64 a1, .int .i64 n, .string t] 62)) 70 #[.int .i64 0, .int .i64 0, .string ⟨#[]⟩, .bool false, .int .i64 0, .int .i64 0, .string ⟨#[]⟩, .bool false, .bool false]; (try simp only [World.size_alloc] at h); exact (h.alloc (.cells #[.int .i64 a1, .int .i64 n, .string t, .bool false] 68)))
  have HO3 := Lib.hid (show Own ((((w.alloc (.cells #[.int .i64 a1, .int .i64 a2, .string a3, .bool ls, .int .i64 b1, .int .i64 b2, .string b3, .bool hs, .bool im] 70)).alloc (.cells #[.int .i64 11, .int .i64 cl, .int .i64 a1, .int .i64 n, .string t] 62)).alloc (.cells #[.int .i64 0, .int .i64 0, .string ⟨#[]⟩, .bool false, .int .i64 0, .int .i64 0, .string ⟨#[]⟩, .bool false, .bool false] 70)).alloc (.cells #[.int .i64 a1, .int .i64 n, .string t, .bool false] 68)) (w.heap.size + 1 + 1 + 1) 68 #[.int .i64 a1, .int .i64 n, .string t, .bool false] from by have h := Own.new (((w.alloc (.cells #[.int .i64 a1, .int .i64 a2, .string a3, .bool ls, .int .i64 b1, .int .i64 b2, .string b3, .bool hs, .bool im] 70)).alloc (.cells #[.int .i64 11, .int .i64 cl, .int .i64 a1, .int .i64 n, .string t] 62)).alloc (.cells #[.int .i64 0, .int .i64 0, .string ⟨#[]⟩, .bool false, .int .i64 0, .int .i64 0, .string ⟨#[]⟩, .bool false, .bool false] 70)) 68 #[.int .i64 a1, .int .i64 n, .string t, .bool false]; (try simp only [World.size_alloc] at h); exact h)
  have HB := Lib.hid (show Below w.heap.size w ((((w.alloc (.cells #[.int .i64 a1, .int .i64 a2, .string a3, .bool ls, .int .i64 b1, .int .i64 b2, .string b3, .bool hs, .bool im] 70)).alloc (.cells #[.int .i64 11, .int .i64 cl, .int .i64 a1, .int .i64 n, .string t] 62)).alloc (.cells #[.int .i64 0, .int .i64 0, .string ⟨#[]⟩, .bool false, .int .i64 0, .int .i64 0, .string ⟨#[]⟩, .bool false, .bool false] 70)).alloc (.cells #[.int .i64 a1, .int .i64 n, .string t, .bool false] 68)) from (((bel_mk w (.cells #[.int .i64 a1, .int .i64 a2, .string a3, .bool ls, .int .i64 b1, .int .i64 b2, .string b3, .bool hs, .bool im] 70)).trans ((bel_mk (w.alloc (.cells #[.int .i64 a1, .int .i64 a2, .string a3, .bool ls, .int .i64 b1, .int .i64 b2, .string b3, .bool hs, .bool im] 70)) (.cells #[.int .i64 11, .int .i64 cl, .int .i64 a1, .int .i64 n, .string t] 62)).mono (by simp only [World.size_alloc]; omega))).trans ((bel_mk ((w.alloc (.cells #[.int .i64 a1, .int .i64 a2, .string a3, .bool ls, .int .i64 b1, .int .i64 b2, .string b3, .bool hs, .bool im] 70)).alloc (.cells #[.int .i64 11, .int .i64 cl, .int .i64 a1, .int .i64 n, .string t] 62)) (.cells #[.int .i64 0, .int .i64 0, .string ⟨#[]⟩, .bool false, .int .i64 0, .int .i64 0, .string ⟨#[]⟩, .bool false, .bool false] 70)).mono (by simp only [World.size_alloc]; omega))).trans ((bel_mk (((w.alloc (.cells #[.int .i64 a1, .int .i64 a2, .string a3, .bool ls, .int .i64 b1, .int .i64 b2, .string b3, .bool hs, .bool im] 70)).alloc (.cells #[.int .i64 11, .int .i64 cl, .int .i64 a1, .int .i64 n, .string t] 62)).alloc (.cells #[.int .i64 0, .int .i64 0, .string ⟨#[]⟩, .bool false, .int .i64 0, .int .i64 0, .string ⟨#[]⟩, .bool false, .bool false] 70)) (.cells #[.int .i64 a1, .int .i64 n, .string t, .bool false] 68)).mono (by simp only [World.size_alloc]; omega)))
  go_enter Try.func39, Try.ntmps39
  go_wp2_with fail
  with_reducible refine (HY.out _).mono ?_
  rintro e' w1 ⟨rfl, hb⟩
  replace HO0 := Lib.hid (HO0.out.below hb HO0.out.lt)
  replace HO1 := Lib.hid (HO1.out.below hb HO1.out.lt)
  replace HO2 := Lib.hid (HO2.out.below hb HO2.out.lt)
  replace HO3 := Lib.hid (HO3.out.below hb HO3.out.lt)
  replace HB := Lib.hid (HB.out.trans (hb.mono HB.out.size))
  clear hb
  have c0_0 := HO0.out.cell 0
  have c0_1 := HO0.out.cell 1
  have c0_2 := HO0.out.cell 2
  have c0_3 := HO0.out.cell 3
  have c0_4 := HO0.out.cell 4
  have c0_5 := HO0.out.cell 5
  have c0_6 := HO0.out.cell 6
  have c0_7 := HO0.out.cell 7
  have c0_8 := HO0.out.cell 8
  have c3_0 := HO3.out.cell 0
  have c3_1 := HO3.out.cell 1
  have c3_2 := HO3.out.cell 2
  have c3_3 := HO3.out.cell 3
  have m3_0 := HO3.out.free 0
  have m3_1 := HO3.out.free 1
  have m3_2 := HO3.out.free 2
  have m3_3 := HO3.out.free 3
  go_wp2_with fail
  clear c0_0 c0_1 c0_2 c0_3 c0_4 c0_5 c0_6 c0_7 c0_8 c3_0 c3_1 c3_2 c3_3 m3_0 m3_1 m3_2 m3_3
  have hxo := ((((HO3.out.store 0 (.int .i64 y1)).store 1 (.int .i64 y2)).store 2 (.string y3)).store 3 (.bool ys))
  simp only [List.setIfInBounds_toArray, List.set_cons_zero, List.set_cons_succ] at hxo
  have HXO := Lib.hid hxo
  clear hxo
  have HXB := Lib.hid (((((HB.out.setCell (p := ⟨w.heap.size + 1 + 1 + 1, 0, none⟩) (by show w.heap.size ≤ w.heap.size + 1 + 1 + 1; omega) (.int .i64 y1)).setCell (p := ⟨w.heap.size + 1 + 1 + 1, 1, none⟩) (by show w.heap.size ≤ w.heap.size + 1 + 1 + 1; omega) (.int .i64 y2)).setCell (p := ⟨w.heap.size + 1 + 1 + 1, 2, none⟩) (by show w.heap.size ≤ w.heap.size + 1 + 1 + 1; omega) (.string y3)).setCell (p := ⟨w.heap.size + 1 + 1 + 1, 3, none⟩) (by show w.heap.size ≤ w.heap.size + 1 + 1 + 1; omega) (.bool ys)))
  replace HO0 := Lib.hid ((((HO0.out.far (p := ⟨w.heap.size + 1 + 1 + 1, 0, none⟩) (by show w.heap.size ≠ w.heap.size + 1 + 1 + 1; omega) (.int .i64 y1)).far (p := ⟨w.heap.size + 1 + 1 + 1, 1, none⟩) (by show w.heap.size ≠ w.heap.size + 1 + 1 + 1; omega) (.int .i64 y2)).far (p := ⟨w.heap.size + 1 + 1 + 1, 2, none⟩) (by show w.heap.size ≠ w.heap.size + 1 + 1 + 1; omega) (.string y3)).far (p := ⟨w.heap.size + 1 + 1 + 1, 3, none⟩) (by show w.heap.size ≠ w.heap.size + 1 + 1 + 1; omega) (.bool ys))
  replace HO1 := Lib.hid ((((HO1.out.far (p := ⟨w.heap.size + 1 + 1 + 1, 0, none⟩) (by show w.heap.size + 1 ≠ w.heap.size + 1 + 1 + 1; omega) (.int .i64 y1)).far (p := ⟨w.heap.size + 1 + 1 + 1, 1, none⟩) (by show w.heap.size + 1 ≠ w.heap.size + 1 + 1 + 1; omega) (.int .i64 y2)).far (p := ⟨w.heap.size + 1 + 1 + 1, 2, none⟩) (by show w.heap.size + 1 ≠ w.heap.size + 1 + 1 + 1; omega) (.string y3)).far (p := ⟨w.heap.size + 1 + 1 + 1, 3, none⟩) (by show w.heap.size + 1 ≠ w.heap.size + 1 + 1 + 1; omega) (.bool ys))
  replace HO2 := Lib.hid ((((HO2.out.far (p := ⟨w.heap.size + 1 + 1 + 1, 0, none⟩) (by show w.heap.size + 1 + 1 ≠ w.heap.size + 1 + 1 + 1; omega) (.int .i64 y1)).far (p := ⟨w.heap.size + 1 + 1 + 1, 1, none⟩) (by show w.heap.size + 1 + 1 ≠ w.heap.size + 1 + 1 + 1; omega) (.int .i64 y2)).far (p := ⟨w.heap.size + 1 + 1 + 1, 2, none⟩) (by show w.heap.size + 1 + 1 ≠ w.heap.size + 1 + 1 + 1; omega) (.string y3)).far (p := ⟨w.heap.size + 1 + 1 + 1, 3, none⟩) (by show w.heap.size + 1 + 1 ≠ w.heap.size + 1 + 1 + 1; omega) (.bool ys))
  replace HO3 := HXO
  replace HB := HXB
  clear HXO HXB
  with_reducible refine (HC.out _).mono ?_
  rintro e' w2 ⟨rfl, hb⟩
  replace HO0 := Lib.hid (HO0.out.below hb HO0.out.lt)
  replace HO1 := Lib.hid (HO1.out.below hb HO1.out.lt)
  replace HO2 := Lib.hid (HO2.out.below hb HO2.out.lt)
  replace HO3 := Lib.hid (HO3.out.below hb HO3.out.lt)
  replace HB := Lib.hid (HB.out.trans (hb.mono HB.out.size))
  clear hb
  have c2_0 := HO2.out.cell 0
  have c2_1 := HO2.out.cell 1
  have c2_2 := HO2.out.cell 2
  have c2_3 := HO2.out.cell 3
  have c2_4 := HO2.out.cell 4
  have c2_5 := HO2.out.cell 5
  have c2_6 := HO2.out.cell 6
  have c2_7 := HO2.out.cell 7
  have c2_8 := HO2.out.cell 8
  have m2_0 := HO2.out.free 0
  have m2_1 := HO2.out.free 1
  have m2_2 := HO2.out.free 2
  have m2_3 := HO2.out.free 3
  have m2_4 := HO2.out.free 4
  have m2_5 := HO2.out.free 5
  have m2_6 := HO2.out.free 6
  have m2_7 := HO2.out.free 7
  have m2_8 := HO2.out.free 8
  go_wp2
  clear c2_0 c2_1 c2_2 c2_3 c2_4 c2_5 c2_6 c2_7 c2_8 m2_0 m2_1 m2_2 m2_3 m2_4 m2_5 m2_6 m2_7 m2_8
  have hxo := (((((((((HO2.out.store 0 (.int .i64 r.lo.1)).store 1 (.int .i64 r.lo.2.1)).store 2 (.string r.lo.2.2)).store 3 (.bool r.ls)).store 4 (.int .i64 r.hi.1)).store 5 (.int .i64 r.hi.2.1)).store 6 (.string r.hi.2.2)).store 7 (.bool r.hs)).store 8 (.bool r.im))
  simp only [List.setIfInBounds_toArray, List.set_cons_zero, List.set_cons_succ] at hxo
  have HXO := Lib.hid hxo
  clear hxo
  have HXB := Lib.hid ((((((((((HB.out.setCell (p := ⟨w.heap.size + 1 + 1, 0, none⟩) (by show w.heap.size ≤ w.heap.size + 1 + 1; omega) (.int .i64 r.lo.1)).setCell (p := ⟨w.heap.size + 1 + 1, 1, none⟩) (by show w.heap.size ≤ w.heap.size + 1 + 1; omega) (.int .i64 r.lo.2.1)).setCell (p := ⟨w.heap.size + 1 + 1, 2, none⟩) (by show w.heap.size ≤ w.heap.size + 1 + 1; omega) (.string r.lo.2.2)).setCell (p := ⟨w.heap.size + 1 + 1, 3, none⟩) (by show w.heap.size ≤ w.heap.size + 1 + 1; omega) (.bool r.ls)).setCell (p := ⟨w.heap.size + 1 + 1, 4, none⟩) (by show w.heap.size ≤ w.heap.size + 1 + 1; omega) (.int .i64 r.hi.1)).setCell (p := ⟨w.heap.size + 1 + 1, 5, none⟩) (by show w.heap.size ≤ w.heap.size + 1 + 1; omega) (.int .i64 r.hi.2.1)).setCell (p := ⟨w.heap.size + 1 + 1, 6, none⟩) (by show w.heap.size ≤ w.heap.size + 1 + 1; omega) (.string r.hi.2.2)).setCell (p := ⟨w.heap.size + 1 + 1, 7, none⟩) (by show w.heap.size ≤ w.heap.size + 1 + 1; omega) (.bool r.hs)).setCell (p := ⟨w.heap.size + 1 + 1, 8, none⟩) (by show w.heap.size ≤ w.heap.size + 1 + 1; omega) (.bool r.im)))
  replace HO0 := Lib.hid (((((((((HO0.out.far (p := ⟨w.heap.size + 1 + 1, 0, none⟩) (by show w.heap.size ≠ w.heap.size + 1 + 1; omega) (.int .i64 r.lo.1)).far (p := ⟨w.heap.size + 1 + 1, 1, none⟩) (by show w.heap.size ≠ w.heap.size + 1 + 1; omega) (.int .i64 r.lo.2.1)).far (p := ⟨w.heap.size + 1 + 1, 2, none⟩) (by show w.heap.size ≠ w.heap.size + 1 + 1; omega) (.string r.lo.2.2)).far (p := ⟨w.heap.size + 1 + 1, 3, none⟩) (by show w.heap.size ≠ w.heap.size + 1 + 1; omega) (.bool r.ls)).far (p := ⟨w.heap.size + 1 + 1, 4, none⟩) (by show w.heap.size ≠ w.heap.size + 1 + 1; omega) (.int .i64 r.hi.1)).far (p := ⟨w.heap.size + 1 + 1, 5, none⟩) (by show w.heap.size ≠ w.heap.size + 1 + 1; omega) (.int .i64 r.hi.2.1)).far (p := ⟨w.heap.size + 1 + 1, 6, none⟩) (by show w.heap.size ≠ w.heap.size + 1 + 1; omega) (.string r.hi.2.2)).far (p := ⟨w.heap.size + 1 + 1, 7, none⟩) (by show w.heap.size ≠ w.heap.size + 1 + 1; omega) (.bool r.hs)).far (p := ⟨w.heap.size + 1 + 1, 8, none⟩) (by show w.heap.size ≠ w.heap.size + 1 + 1; omega) (.bool r.im))
  replace HO1 := Lib.hid (((((((((HO1.out.far (p := ⟨w.heap.size + 1 + 1, 0, none⟩) (by show w.heap.size + 1 ≠ w.heap.size + 1 + 1; omega) (.int .i64 r.lo.1)).far (p := ⟨w.heap.size + 1 + 1, 1, none⟩) (by show w.heap.size + 1 ≠ w.heap.size + 1 + 1; omega) (.int .i64 r.lo.2.1)).far (p := ⟨w.heap.size + 1 + 1, 2, none⟩) (by show w.heap.size + 1 ≠ w.heap.size + 1 + 1; omega) (.string r.lo.2.2)).far (p := ⟨w.heap.size + 1 + 1, 3, none⟩) (by show w.heap.size + 1 ≠ w.heap.size + 1 + 1; omega) (.bool r.ls)).far (p := ⟨w.heap.size + 1 + 1, 4, none⟩) (by show w.heap.size + 1 ≠ w.heap.size + 1 + 1; omega) (.int .i64 r.hi.1)).far (p := ⟨w.heap.size + 1 + 1, 5, none⟩) (by show w.heap.size + 1 ≠ w.heap.size + 1 + 1; omega) (.int .i64 r.hi.2.1)).far (p := ⟨w.heap.size + 1 + 1, 6, none⟩) (by show w.heap.size + 1 ≠ w.heap.size + 1 + 1; omega) (.string r.hi.2.2)).far (p := ⟨w.heap.size + 1 + 1, 7, none⟩) (by show w.heap.size + 1 ≠ w.heap.size + 1 + 1; omega) (.bool r.hs)).far (p := ⟨w.heap.size + 1 + 1, 8, none⟩) (by show w.heap.size + 1 ≠ w.heap.size + 1 + 1; omega) (.bool r.im))
  replace HO3 := Lib.hid (((((((((HO3.out.far (p := ⟨w.heap.size + 1 + 1, 0, none⟩) (by show w.heap.size + 1 + 1 + 1 ≠ w.heap.size + 1 + 1; omega) (.int .i64 r.lo.1)).far (p := ⟨w.heap.size + 1 + 1, 1, none⟩) (by show w.heap.size + 1 + 1 + 1 ≠ w.heap.size + 1 + 1; omega) (.int .i64 r.lo.2.1)).far (p := ⟨w.heap.size + 1 + 1, 2, none⟩) (by show w.heap.size + 1 + 1 + 1 ≠ w.heap.size + 1 + 1; omega) (.string r.lo.2.2)).far (p := ⟨w.heap.size + 1 + 1, 3, none⟩) (by show w.heap.size + 1 + 1 + 1 ≠ w.heap.size + 1 + 1; omega) (.bool r.ls)).far (p := ⟨w.heap.size + 1 + 1, 4, none⟩) (by show w.heap.size + 1 + 1 + 1 ≠ w.heap.size + 1 + 1; omega) (.int .i64 r.hi.1)).far (p := ⟨w.heap.size + 1 + 1, 5, none⟩) (by show w.heap.size + 1 + 1 + 1 ≠ w.heap.size + 1 + 1; omega) (.int .i64 r.hi.2.1)).far (p := ⟨w.heap.size + 1 + 1, 6, none⟩) (by show w.heap.size + 1 + 1 + 1 ≠ w.heap.size + 1 + 1; omega) (.string r.hi.2.2)).far (p := ⟨w.heap.size + 1 + 1, 7, none⟩) (by show w.heap.size + 1 + 1 + 1 ≠ w.heap.size + 1 + 1; omega) (.bool r.hs)).far (p := ⟨w.heap.size + 1 + 1, 8, none⟩) (by show w.heap.size + 1 + 1 + 1 ≠ w.heap.size + 1 + 1; omega) (.bool r.im))
  replace HO2 := HXO
  replace HB := HXB
  clear HXO HXB
  (try simp only [Exit.inBlock, Exit.then]); refine bodyPost_ret_by (results_cell_row1 (by rfl) _ _ (w.heap.size + 1 + 1) _ (by rfl) (load_itv HO2.out)) ?_ ?_; (focus rfl); (try dsimp only)
  exact ⟨rfl, HB.out⟩
set_option maxRecDepth 100000 in
set_option maxHeartbeats 6400000 in
theorem nar_12 (a1 a2 : Int) (a3 : ByteArray) (ls : Bool) (b1 b2 : Int) (b3 : ByteArray) (hs im : Bool) (cl n : Int) (t : ByteArray) (hv : -1125899906842624 ≤ n ∧ n ≤ 1125899906842624) (w : World) :
    Calls Try.prog 39 #[.agg #[.int .i64 a1, .int .i64 a2, .string a3, .bool ls, .int .i64 b1, .int .i64 b2, .string b3, .bool hs, .bool im], .agg #[.int .i64 12, .int .i64 cl, .int .i64 a1, .int .i64 n, .string t]] w fun e w' => e = .returned (itvV (abvI ⟨(a1, a2, a3), ls, (b1, b2, b3), hs, im⟩ (a1, n, t) false)) ∧ Below w.heap.size w w' := by
  have HC := Lib.hid (fun W => pAbv_any ⟨(a1, a2, a3), ls, (b1, b2, b3), hs, im⟩ (a1, n, t) false W)
  generalize abvI ⟨(a1, a2, a3), ls, (b1, b2, b3), hs, im⟩ (a1, n, t) false = r at *
  unfold itvV bndV at *
  dsimp only at *
  have HO0 := Lib.hid (show Own ((((w.alloc (.cells #[.int .i64 a1, .int .i64 a2, .string a3, .bool ls, .int .i64 b1, .int .i64 b2, .string b3, .bool hs, .bool im] 70)).alloc (.cells #[.int .i64 12, .int .i64 cl, .int .i64 a1, .int .i64 n, .string t] 62)).alloc (.cells #[.int .i64 0, .int .i64 0, .string ⟨#[]⟩, .bool false, .int .i64 0, .int .i64 0, .string ⟨#[]⟩, .bool false, .bool false] 70)).alloc (.cells #[.int .i64 a1, .int .i64 n, .string t, .bool false] 68)) (w.heap.size) 70 #[.int .i64 a1, .int .i64 a2, .string a3, .bool ls, .int .i64 b1, .int .i64 b2, .string b3, .bool hs, .bool im] from by have h := Own.new w 70 #[.int .i64 a1, .int .i64 a2, .string a3, .bool ls, .int .i64 b1, .int .i64 b2, .string b3, .bool hs, .bool im]; (try simp only [World.size_alloc] at h); exact (((h.alloc (.cells #[.int .i64 12, .int .i64 cl, .int .i64 a1, .int .i64 n, .string t] 62)).alloc (.cells #[.int .i64 0, .int .i64 0, .string ⟨#[]⟩, .bool false, .int .i64 0, .int .i64 0, .string ⟨#[]⟩, .bool false, .bool false] 70)).alloc (.cells #[.int .i64 a1, .int .i64 n, .string t, .bool false] 68)))
  have HO1 := Lib.hid (show Own ((((w.alloc (.cells #[.int .i64 a1, .int .i64 a2, .string a3, .bool ls, .int .i64 b1, .int .i64 b2, .string b3, .bool hs, .bool im] 70)).alloc (.cells #[.int .i64 12, .int .i64 cl, .int .i64 a1, .int .i64 n, .string t] 62)).alloc (.cells #[.int .i64 0, .int .i64 0, .string ⟨#[]⟩, .bool false, .int .i64 0, .int .i64 0, .string ⟨#[]⟩, .bool false, .bool false] 70)).alloc (.cells #[.int .i64 a1, .int .i64 n, .string t, .bool false] 68)) (w.heap.size + 1) 62 #[.int .i64 12, .int .i64 cl, .int .i64 a1, .int .i64 n, .string t] from by have h := Own.new (w.alloc (.cells #[.int .i64 a1, .int .i64 a2, .string a3, .bool ls, .int .i64 b1, .int .i64 b2, .string b3, .bool hs, .bool im] 70)) 62 #[.int .i64 12, .int .i64 cl, .int .i64 a1, .int .i64 n, .string t]; (try simp only [World.size_alloc] at h); exact ((h.alloc (.cells #[.int .i64 0, .int .i64 0, .string ⟨#[]⟩, .bool false, .int .i64 0, .int .i64 0, .string ⟨#[]⟩, .bool false, .bool false] 70)).alloc (.cells #[.int .i64 a1, .int .i64 n, .string t, .bool false] 68)))
  have HO2 := Lib.hid (show Own ((((w.alloc (.cells #[.int .i64 a1, .int .i64 a2, .string a3, .bool ls, .int .i64 b1, .int .i64 b2, .string b3, .bool hs, .bool im] 70)).alloc (.cells #[.int .i64 12, .int .i64 cl, .int .i64 a1, .int .i64 n, .string t] 62)).alloc (.cells #[.int .i64 0, .int .i64 0, .string ⟨#[]⟩, .bool false, .int .i64 0, .int .i64 0, .string ⟨#[]⟩, .bool false, .bool false] 70)).alloc (.cells #[.int .i64 a1, .int .i64 n, .string t, .bool false] 68)) (w.heap.size + 1 + 1) 70 #[.int .i64 0, .int .i64 0, .string ⟨#[]⟩, .bool false, .int .i64 0, .int .i64 0, .string ⟨#[]⟩, .bool false, .bool false] from by have h := Own.new ((w.alloc (.cells #[.int .i64 a1, .int .i64 a2, .string a3, .bool ls, .int .i64 b1, .int .i64 b2, .string b3, .bool hs, .bool im] 70)).alloc (.cells #[.int .i64 12, .int .i64 cl, .int .i64 a1, .int .i64 n, .string t] 62)) 70 #[.int .i64 0, .int .i64 0, .string ⟨#[]⟩, .bool false, .int .i64 0, .int .i64 0, .string ⟨#[]⟩, .bool false, .bool false]; (try simp only [World.size_alloc] at h); exact (h.alloc (.cells #[.int .i64 a1, .int .i64 n, .string t, .bool false] 68)))
  have HO3 := Lib.hid (show Own ((((w.alloc (.cells #[.int .i64 a1, .int .i64 a2, .string a3, .bool ls, .int .i64 b1, .int .i64 b2, .string b3, .bool hs, .bool im] 70)).alloc (.cells #[.int .i64 12, .int .i64 cl, .int .i64 a1, .int .i64 n, .string t] 62)).alloc (.cells #[.int .i64 0, .int .i64 0, .string ⟨#[]⟩, .bool false, .int .i64 0, .int .i64 0, .string ⟨#[]⟩, .bool false, .bool false] 70)).alloc (.cells #[.int .i64 a1, .int .i64 n, .string t, .bool false] 68)) (w.heap.size + 1 + 1 + 1) 68 #[.int .i64 a1, .int .i64 n, .string t, .bool false] from by have h := Own.new (((w.alloc (.cells #[.int .i64 a1, .int .i64 a2, .string a3, .bool ls, .int .i64 b1, .int .i64 b2, .string b3, .bool hs, .bool im] 70)).alloc (.cells #[.int .i64 12, .int .i64 cl, .int .i64 a1, .int .i64 n, .string t] 62)).alloc (.cells #[.int .i64 0, .int .i64 0, .string ⟨#[]⟩, .bool false, .int .i64 0, .int .i64 0, .string ⟨#[]⟩, .bool false, .bool false] 70)) 68 #[.int .i64 a1, .int .i64 n, .string t, .bool false]; (try simp only [World.size_alloc] at h); exact h)
  have HB := Lib.hid (show Below w.heap.size w ((((w.alloc (.cells #[.int .i64 a1, .int .i64 a2, .string a3, .bool ls, .int .i64 b1, .int .i64 b2, .string b3, .bool hs, .bool im] 70)).alloc (.cells #[.int .i64 12, .int .i64 cl, .int .i64 a1, .int .i64 n, .string t] 62)).alloc (.cells #[.int .i64 0, .int .i64 0, .string ⟨#[]⟩, .bool false, .int .i64 0, .int .i64 0, .string ⟨#[]⟩, .bool false, .bool false] 70)).alloc (.cells #[.int .i64 a1, .int .i64 n, .string t, .bool false] 68)) from (((bel_mk w (.cells #[.int .i64 a1, .int .i64 a2, .string a3, .bool ls, .int .i64 b1, .int .i64 b2, .string b3, .bool hs, .bool im] 70)).trans ((bel_mk (w.alloc (.cells #[.int .i64 a1, .int .i64 a2, .string a3, .bool ls, .int .i64 b1, .int .i64 b2, .string b3, .bool hs, .bool im] 70)) (.cells #[.int .i64 12, .int .i64 cl, .int .i64 a1, .int .i64 n, .string t] 62)).mono (by simp only [World.size_alloc]; omega))).trans ((bel_mk ((w.alloc (.cells #[.int .i64 a1, .int .i64 a2, .string a3, .bool ls, .int .i64 b1, .int .i64 b2, .string b3, .bool hs, .bool im] 70)).alloc (.cells #[.int .i64 12, .int .i64 cl, .int .i64 a1, .int .i64 n, .string t] 62)) (.cells #[.int .i64 0, .int .i64 0, .string ⟨#[]⟩, .bool false, .int .i64 0, .int .i64 0, .string ⟨#[]⟩, .bool false, .bool false] 70)).mono (by simp only [World.size_alloc]; omega))).trans ((bel_mk (((w.alloc (.cells #[.int .i64 a1, .int .i64 a2, .string a3, .bool ls, .int .i64 b1, .int .i64 b2, .string b3, .bool hs, .bool im] 70)).alloc (.cells #[.int .i64 12, .int .i64 cl, .int .i64 a1, .int .i64 n, .string t] 62)).alloc (.cells #[.int .i64 0, .int .i64 0, .string ⟨#[]⟩, .bool false, .int .i64 0, .int .i64 0, .string ⟨#[]⟩, .bool false, .bool false] 70)) (.cells #[.int .i64 a1, .int .i64 n, .string t, .bool false] 68)).mono (by simp only [World.size_alloc]; omega)))
  go_enter Try.func39, Try.ntmps39
  go_wp2_with fail
  with_reducible refine (HC.out _).mono ?_
  rintro e' w1 ⟨rfl, hb⟩
  replace HO0 := Lib.hid (HO0.out.below hb HO0.out.lt)
  replace HO1 := Lib.hid (HO1.out.below hb HO1.out.lt)
  replace HO2 := Lib.hid (HO2.out.below hb HO2.out.lt)
  replace HO3 := Lib.hid (HO3.out.below hb HO3.out.lt)
  replace HB := Lib.hid (HB.out.trans (hb.mono HB.out.size))
  clear hb
  have c2_0 := HO2.out.cell 0
  have c2_1 := HO2.out.cell 1
  have c2_2 := HO2.out.cell 2
  have c2_3 := HO2.out.cell 3
  have c2_4 := HO2.out.cell 4
  have c2_5 := HO2.out.cell 5
  have c2_6 := HO2.out.cell 6
  have c2_7 := HO2.out.cell 7
  have c2_8 := HO2.out.cell 8
  have m2_0 := HO2.out.free 0
  have m2_1 := HO2.out.free 1
  have m2_2 := HO2.out.free 2
  have m2_3 := HO2.out.free 3
  have m2_4 := HO2.out.free 4
  have m2_5 := HO2.out.free 5
  have m2_6 := HO2.out.free 6
  have m2_7 := HO2.out.free 7
  have m2_8 := HO2.out.free 8
  go_wp2
  clear c2_0 c2_1 c2_2 c2_3 c2_4 c2_5 c2_6 c2_7 c2_8 m2_0 m2_1 m2_2 m2_3 m2_4 m2_5 m2_6 m2_7 m2_8
  have hxo := (((((((((HO2.out.store 0 (.int .i64 r.lo.1)).store 1 (.int .i64 r.lo.2.1)).store 2 (.string r.lo.2.2)).store 3 (.bool r.ls)).store 4 (.int .i64 r.hi.1)).store 5 (.int .i64 r.hi.2.1)).store 6 (.string r.hi.2.2)).store 7 (.bool r.hs)).store 8 (.bool r.im))
  simp only [List.setIfInBounds_toArray, List.set_cons_zero, List.set_cons_succ] at hxo
  have HXO := Lib.hid hxo
  clear hxo
  have HXB := Lib.hid ((((((((((HB.out.setCell (p := ⟨w.heap.size + 1 + 1, 0, none⟩) (by show w.heap.size ≤ w.heap.size + 1 + 1; omega) (.int .i64 r.lo.1)).setCell (p := ⟨w.heap.size + 1 + 1, 1, none⟩) (by show w.heap.size ≤ w.heap.size + 1 + 1; omega) (.int .i64 r.lo.2.1)).setCell (p := ⟨w.heap.size + 1 + 1, 2, none⟩) (by show w.heap.size ≤ w.heap.size + 1 + 1; omega) (.string r.lo.2.2)).setCell (p := ⟨w.heap.size + 1 + 1, 3, none⟩) (by show w.heap.size ≤ w.heap.size + 1 + 1; omega) (.bool r.ls)).setCell (p := ⟨w.heap.size + 1 + 1, 4, none⟩) (by show w.heap.size ≤ w.heap.size + 1 + 1; omega) (.int .i64 r.hi.1)).setCell (p := ⟨w.heap.size + 1 + 1, 5, none⟩) (by show w.heap.size ≤ w.heap.size + 1 + 1; omega) (.int .i64 r.hi.2.1)).setCell (p := ⟨w.heap.size + 1 + 1, 6, none⟩) (by show w.heap.size ≤ w.heap.size + 1 + 1; omega) (.string r.hi.2.2)).setCell (p := ⟨w.heap.size + 1 + 1, 7, none⟩) (by show w.heap.size ≤ w.heap.size + 1 + 1; omega) (.bool r.hs)).setCell (p := ⟨w.heap.size + 1 + 1, 8, none⟩) (by show w.heap.size ≤ w.heap.size + 1 + 1; omega) (.bool r.im)))
  replace HO0 := Lib.hid (((((((((HO0.out.far (p := ⟨w.heap.size + 1 + 1, 0, none⟩) (by show w.heap.size ≠ w.heap.size + 1 + 1; omega) (.int .i64 r.lo.1)).far (p := ⟨w.heap.size + 1 + 1, 1, none⟩) (by show w.heap.size ≠ w.heap.size + 1 + 1; omega) (.int .i64 r.lo.2.1)).far (p := ⟨w.heap.size + 1 + 1, 2, none⟩) (by show w.heap.size ≠ w.heap.size + 1 + 1; omega) (.string r.lo.2.2)).far (p := ⟨w.heap.size + 1 + 1, 3, none⟩) (by show w.heap.size ≠ w.heap.size + 1 + 1; omega) (.bool r.ls)).far (p := ⟨w.heap.size + 1 + 1, 4, none⟩) (by show w.heap.size ≠ w.heap.size + 1 + 1; omega) (.int .i64 r.hi.1)).far (p := ⟨w.heap.size + 1 + 1, 5, none⟩) (by show w.heap.size ≠ w.heap.size + 1 + 1; omega) (.int .i64 r.hi.2.1)).far (p := ⟨w.heap.size + 1 + 1, 6, none⟩) (by show w.heap.size ≠ w.heap.size + 1 + 1; omega) (.string r.hi.2.2)).far (p := ⟨w.heap.size + 1 + 1, 7, none⟩) (by show w.heap.size ≠ w.heap.size + 1 + 1; omega) (.bool r.hs)).far (p := ⟨w.heap.size + 1 + 1, 8, none⟩) (by show w.heap.size ≠ w.heap.size + 1 + 1; omega) (.bool r.im))
  replace HO1 := Lib.hid (((((((((HO1.out.far (p := ⟨w.heap.size + 1 + 1, 0, none⟩) (by show w.heap.size + 1 ≠ w.heap.size + 1 + 1; omega) (.int .i64 r.lo.1)).far (p := ⟨w.heap.size + 1 + 1, 1, none⟩) (by show w.heap.size + 1 ≠ w.heap.size + 1 + 1; omega) (.int .i64 r.lo.2.1)).far (p := ⟨w.heap.size + 1 + 1, 2, none⟩) (by show w.heap.size + 1 ≠ w.heap.size + 1 + 1; omega) (.string r.lo.2.2)).far (p := ⟨w.heap.size + 1 + 1, 3, none⟩) (by show w.heap.size + 1 ≠ w.heap.size + 1 + 1; omega) (.bool r.ls)).far (p := ⟨w.heap.size + 1 + 1, 4, none⟩) (by show w.heap.size + 1 ≠ w.heap.size + 1 + 1; omega) (.int .i64 r.hi.1)).far (p := ⟨w.heap.size + 1 + 1, 5, none⟩) (by show w.heap.size + 1 ≠ w.heap.size + 1 + 1; omega) (.int .i64 r.hi.2.1)).far (p := ⟨w.heap.size + 1 + 1, 6, none⟩) (by show w.heap.size + 1 ≠ w.heap.size + 1 + 1; omega) (.string r.hi.2.2)).far (p := ⟨w.heap.size + 1 + 1, 7, none⟩) (by show w.heap.size + 1 ≠ w.heap.size + 1 + 1; omega) (.bool r.hs)).far (p := ⟨w.heap.size + 1 + 1, 8, none⟩) (by show w.heap.size + 1 ≠ w.heap.size + 1 + 1; omega) (.bool r.im))
  replace HO3 := Lib.hid (((((((((HO3.out.far (p := ⟨w.heap.size + 1 + 1, 0, none⟩) (by show w.heap.size + 1 + 1 + 1 ≠ w.heap.size + 1 + 1; omega) (.int .i64 r.lo.1)).far (p := ⟨w.heap.size + 1 + 1, 1, none⟩) (by show w.heap.size + 1 + 1 + 1 ≠ w.heap.size + 1 + 1; omega) (.int .i64 r.lo.2.1)).far (p := ⟨w.heap.size + 1 + 1, 2, none⟩) (by show w.heap.size + 1 + 1 + 1 ≠ w.heap.size + 1 + 1; omega) (.string r.lo.2.2)).far (p := ⟨w.heap.size + 1 + 1, 3, none⟩) (by show w.heap.size + 1 + 1 + 1 ≠ w.heap.size + 1 + 1; omega) (.bool r.ls)).far (p := ⟨w.heap.size + 1 + 1, 4, none⟩) (by show w.heap.size + 1 + 1 + 1 ≠ w.heap.size + 1 + 1; omega) (.int .i64 r.hi.1)).far (p := ⟨w.heap.size + 1 + 1, 5, none⟩) (by show w.heap.size + 1 + 1 + 1 ≠ w.heap.size + 1 + 1; omega) (.int .i64 r.hi.2.1)).far (p := ⟨w.heap.size + 1 + 1, 6, none⟩) (by show w.heap.size + 1 + 1 + 1 ≠ w.heap.size + 1 + 1; omega) (.string r.hi.2.2)).far (p := ⟨w.heap.size + 1 + 1, 7, none⟩) (by show w.heap.size + 1 + 1 + 1 ≠ w.heap.size + 1 + 1; omega) (.bool r.hs)).far (p := ⟨w.heap.size + 1 + 1, 8, none⟩) (by show w.heap.size + 1 + 1 + 1 ≠ w.heap.size + 1 + 1; omega) (.bool r.im))
  replace HO2 := HXO
  replace HB := HXB
  clear HXO HXB
  (try simp only [Exit.inBlock, Exit.then]); refine bodyPost_ret_by (results_cell_row1 (by rfl) _ _ (w.heap.size + 1 + 1) _ (by rfl) (load_itv HO2.out)) ?_ ?_; (focus rfl); (try dsimp only)
  exact ⟨rfl, HB.out⟩
set_option maxRecDepth 100000 in
set_option maxHeartbeats 6400000 in
theorem nar_9 (a1 a2 : Int) (a3 : ByteArray) (ls : Bool) (b1 b2 : Int) (b3 : ByteArray) (hs im : Bool) (cl n : Int) (t : ByteArray) (hv : -1125899906842624 ≤ n ∧ n ≤ 1125899906842624) (w : World) :
    Calls Try.prog 39 #[.agg #[.int .i64 a1, .int .i64 a2, .string a3, .bool ls, .int .i64 b1, .int .i64 b2, .string b3, .bool hs, .bool im], .agg #[.int .i64 9, .int .i64 cl, .int .i64 a1, .int .i64 n, .string t]] w fun e w' => e = .returned (itvV (blwI ⟨(a1, a2, a3), ls, (b1, b2, b3), hs, im⟩ (beyI (a1, n, t) (-1)).1 (beyI (a1, n, t) (-1)).2)) ∧ Below w.heap.size w w' := by
  have HY := Lib.hid (fun W => pBey_any (a1, n, t) (-1) (by dsimp only; omega) (by omega) W)
  have HC := Lib.hid (fun W => pBlw_any ⟨(a1, a2, a3), ls, (b1, b2, b3), hs, im⟩ (beyI (a1, n, t) (-1)).1 (beyI (a1, n, t) (-1)).2 W)
  generalize blwI ⟨(a1, a2, a3), ls, (b1, b2, b3), hs, im⟩ (beyI (a1, n, t) (-1)).1 (beyI (a1, n, t) (-1)).2 = r at *
  generalize beyI (a1, n, t) (-1) = y at *
  obtain ⟨⟨y1, y2, y3⟩, ys⟩ := y
  unfold itvV bndV valV at *
  dsimp only at *
  have HO0 := Lib.hid (show Own ((((w.alloc (.cells #[.int .i64 a1, .int .i64 a2, .string a3, .bool ls, .int .i64 b1, .int .i64 b2, .string b3, .bool hs, .bool im] 70)).alloc (.cells #[.int .i64 9, .int .i64 cl, .int .i64 a1, .int .i64 n, .string t] 62)).alloc (.cells #[.int .i64 0, .int .i64 0, .string ⟨#[]⟩, .bool false, .int .i64 0, .int .i64 0, .string ⟨#[]⟩, .bool false, .bool false] 70)).alloc (.cells #[.int .i64 a1, .int .i64 n, .string t, .bool false] 68)) (w.heap.size) 70 #[.int .i64 a1, .int .i64 a2, .string a3, .bool ls, .int .i64 b1, .int .i64 b2, .string b3, .bool hs, .bool im] from by have h := Own.new w 70 #[.int .i64 a1, .int .i64 a2, .string a3, .bool ls, .int .i64 b1, .int .i64 b2, .string b3, .bool hs, .bool im]; (try simp only [World.size_alloc] at h); exact (((h.alloc (.cells #[.int .i64 9, .int .i64 cl, .int .i64 a1, .int .i64 n, .string t] 62)).alloc (.cells #[.int .i64 0, .int .i64 0, .string ⟨#[]⟩, .bool false, .int .i64 0, .int .i64 0, .string ⟨#[]⟩, .bool false, .bool false] 70)).alloc (.cells #[.int .i64 a1, .int .i64 n, .string t, .bool false] 68)))
  have HO1 := Lib.hid (show Own ((((w.alloc (.cells #[.int .i64 a1, .int .i64 a2, .string a3, .bool ls, .int .i64 b1, .int .i64 b2, .string b3, .bool hs, .bool im] 70)).alloc (.cells #[.int .i64 9, .int .i64 cl, .int .i64 a1, .int .i64 n, .string t] 62)).alloc (.cells #[.int .i64 0, .int .i64 0, .string ⟨#[]⟩, .bool false, .int .i64 0, .int .i64 0, .string ⟨#[]⟩, .bool false, .bool false] 70)).alloc (.cells #[.int .i64 a1, .int .i64 n, .string t, .bool false] 68)) (w.heap.size + 1) 62 #[.int .i64 9, .int .i64 cl, .int .i64 a1, .int .i64 n, .string t] from by have h := Own.new (w.alloc (.cells #[.int .i64 a1, .int .i64 a2, .string a3, .bool ls, .int .i64 b1, .int .i64 b2, .string b3, .bool hs, .bool im] 70)) 62 #[.int .i64 9, .int .i64 cl, .int .i64 a1, .int .i64 n, .string t]; (try simp only [World.size_alloc] at h); exact ((h.alloc (.cells #[.int .i64 0, .int .i64 0, .string ⟨#[]⟩, .bool false, .int .i64 0, .int .i64 0, .string ⟨#[]⟩, .bool false, .bool false] 70)).alloc (.cells #[.int .i64 a1, .int .i64 n, .string t, .bool false] 68)))
  have HO2 := Lib.hid (show Own ((((w.alloc (.cells #[.int .i64 a1, .int .i64 a2, .string a3, .bool ls, .int .i64 b1, .int .i64 b2, .string b3, .bool hs, .bool im] 70)).alloc (.cells #[.int .i64 9, .int .i64 cl, .int .i64 a1, .int .i64 n, .string t] 62)).alloc (.cells #[.int .i64 0, .int .i64 0, .string ⟨#[]⟩, .bool false, .int .i64 0, .int .i64 0, .string ⟨#[]⟩, .bool false, .bool false] 70)).alloc (.cells #[.int .i64 a1, .int .i64 n, .string t, .bool false] 68)) (w.heap.size + 1 + 1) 70 #[.int .i64 0, .int .i64 0, .string ⟨#[]⟩, .bool false, .int .i64 0, .int .i64 0, .string ⟨#[]⟩, .bool false, .bool false] from by have h := Own.new ((w.alloc (.cells #[.int .i64 a1, .int .i64 a2, .string a3, .bool ls, .int .i64 b1, .int .i64 b2, .string b3, .bool hs, .bool im] 70)).alloc (.cells #[.int .i64 9, .int .i64 cl, .int .i64 a1, .int .i64 n, .string t] 62)) 70 #[.int .i64 0, .int .i64 0, .string ⟨#[]⟩, .bool false, .int .i64 0, .int .i64 0, .string ⟨#[]⟩, .bool false, .bool false]; (try simp only [World.size_alloc] at h); exact (h.alloc (.cells #[.int .i64 a1, .int .i64 n, .string t, .bool false] 68)))
  have HO3 := Lib.hid (show Own ((((w.alloc (.cells #[.int .i64 a1, .int .i64 a2, .string a3, .bool ls, .int .i64 b1, .int .i64 b2, .string b3, .bool hs, .bool im] 70)).alloc (.cells #[.int .i64 9, .int .i64 cl, .int .i64 a1, .int .i64 n, .string t] 62)).alloc (.cells #[.int .i64 0, .int .i64 0, .string ⟨#[]⟩, .bool false, .int .i64 0, .int .i64 0, .string ⟨#[]⟩, .bool false, .bool false] 70)).alloc (.cells #[.int .i64 a1, .int .i64 n, .string t, .bool false] 68)) (w.heap.size + 1 + 1 + 1) 68 #[.int .i64 a1, .int .i64 n, .string t, .bool false] from by have h := Own.new (((w.alloc (.cells #[.int .i64 a1, .int .i64 a2, .string a3, .bool ls, .int .i64 b1, .int .i64 b2, .string b3, .bool hs, .bool im] 70)).alloc (.cells #[.int .i64 9, .int .i64 cl, .int .i64 a1, .int .i64 n, .string t] 62)).alloc (.cells #[.int .i64 0, .int .i64 0, .string ⟨#[]⟩, .bool false, .int .i64 0, .int .i64 0, .string ⟨#[]⟩, .bool false, .bool false] 70)) 68 #[.int .i64 a1, .int .i64 n, .string t, .bool false]; (try simp only [World.size_alloc] at h); exact h)
  have HB := Lib.hid (show Below w.heap.size w ((((w.alloc (.cells #[.int .i64 a1, .int .i64 a2, .string a3, .bool ls, .int .i64 b1, .int .i64 b2, .string b3, .bool hs, .bool im] 70)).alloc (.cells #[.int .i64 9, .int .i64 cl, .int .i64 a1, .int .i64 n, .string t] 62)).alloc (.cells #[.int .i64 0, .int .i64 0, .string ⟨#[]⟩, .bool false, .int .i64 0, .int .i64 0, .string ⟨#[]⟩, .bool false, .bool false] 70)).alloc (.cells #[.int .i64 a1, .int .i64 n, .string t, .bool false] 68)) from (((bel_mk w (.cells #[.int .i64 a1, .int .i64 a2, .string a3, .bool ls, .int .i64 b1, .int .i64 b2, .string b3, .bool hs, .bool im] 70)).trans ((bel_mk (w.alloc (.cells #[.int .i64 a1, .int .i64 a2, .string a3, .bool ls, .int .i64 b1, .int .i64 b2, .string b3, .bool hs, .bool im] 70)) (.cells #[.int .i64 9, .int .i64 cl, .int .i64 a1, .int .i64 n, .string t] 62)).mono (by simp only [World.size_alloc]; omega))).trans ((bel_mk ((w.alloc (.cells #[.int .i64 a1, .int .i64 a2, .string a3, .bool ls, .int .i64 b1, .int .i64 b2, .string b3, .bool hs, .bool im] 70)).alloc (.cells #[.int .i64 9, .int .i64 cl, .int .i64 a1, .int .i64 n, .string t] 62)) (.cells #[.int .i64 0, .int .i64 0, .string ⟨#[]⟩, .bool false, .int .i64 0, .int .i64 0, .string ⟨#[]⟩, .bool false, .bool false] 70)).mono (by simp only [World.size_alloc]; omega))).trans ((bel_mk (((w.alloc (.cells #[.int .i64 a1, .int .i64 a2, .string a3, .bool ls, .int .i64 b1, .int .i64 b2, .string b3, .bool hs, .bool im] 70)).alloc (.cells #[.int .i64 9, .int .i64 cl, .int .i64 a1, .int .i64 n, .string t] 62)).alloc (.cells #[.int .i64 0, .int .i64 0, .string ⟨#[]⟩, .bool false, .int .i64 0, .int .i64 0, .string ⟨#[]⟩, .bool false, .bool false] 70)) (.cells #[.int .i64 a1, .int .i64 n, .string t, .bool false] 68)).mono (by simp only [World.size_alloc]; omega)))
  go_enter Try.func39, Try.ntmps39
  go_wp2_with fail
  with_reducible refine (HY.out _).mono ?_
  rintro e' w1 ⟨rfl, hb⟩
  replace HO0 := Lib.hid (HO0.out.below hb HO0.out.lt)
  replace HO1 := Lib.hid (HO1.out.below hb HO1.out.lt)
  replace HO2 := Lib.hid (HO2.out.below hb HO2.out.lt)
  replace HO3 := Lib.hid (HO3.out.below hb HO3.out.lt)
  replace HB := Lib.hid (HB.out.trans (hb.mono HB.out.size))
  clear hb
  have c0_0 := HO0.out.cell 0
  have c0_1 := HO0.out.cell 1
  have c0_2 := HO0.out.cell 2
  have c0_3 := HO0.out.cell 3
  have c0_4 := HO0.out.cell 4
  have c0_5 := HO0.out.cell 5
  have c0_6 := HO0.out.cell 6
  have c0_7 := HO0.out.cell 7
  have c0_8 := HO0.out.cell 8
  have c3_0 := HO3.out.cell 0
  have c3_1 := HO3.out.cell 1
  have c3_2 := HO3.out.cell 2
  have c3_3 := HO3.out.cell 3
  have m3_0 := HO3.out.free 0
  have m3_1 := HO3.out.free 1
  have m3_2 := HO3.out.free 2
  have m3_3 := HO3.out.free 3
  go_wp2_with fail
  clear c0_0 c0_1 c0_2 c0_3 c0_4 c0_5 c0_6 c0_7 c0_8 c3_0 c3_1 c3_2 c3_3 m3_0 m3_1 m3_2 m3_3
  have hxo := ((((HO3.out.store 0 (.int .i64 y1)).store 1 (.int .i64 y2)).store 2 (.string y3)).store 3 (.bool ys))
  simp only [List.setIfInBounds_toArray, List.set_cons_zero, List.set_cons_succ] at hxo
  have HXO := Lib.hid hxo
  clear hxo
  have HXB := Lib.hid (((((HB.out.setCell (p := ⟨w.heap.size + 1 + 1 + 1, 0, none⟩) (by show w.heap.size ≤ w.heap.size + 1 + 1 + 1; omega) (.int .i64 y1)).setCell (p := ⟨w.heap.size + 1 + 1 + 1, 1, none⟩) (by show w.heap.size ≤ w.heap.size + 1 + 1 + 1; omega) (.int .i64 y2)).setCell (p := ⟨w.heap.size + 1 + 1 + 1, 2, none⟩) (by show w.heap.size ≤ w.heap.size + 1 + 1 + 1; omega) (.string y3)).setCell (p := ⟨w.heap.size + 1 + 1 + 1, 3, none⟩) (by show w.heap.size ≤ w.heap.size + 1 + 1 + 1; omega) (.bool ys)))
  replace HO0 := Lib.hid ((((HO0.out.far (p := ⟨w.heap.size + 1 + 1 + 1, 0, none⟩) (by show w.heap.size ≠ w.heap.size + 1 + 1 + 1; omega) (.int .i64 y1)).far (p := ⟨w.heap.size + 1 + 1 + 1, 1, none⟩) (by show w.heap.size ≠ w.heap.size + 1 + 1 + 1; omega) (.int .i64 y2)).far (p := ⟨w.heap.size + 1 + 1 + 1, 2, none⟩) (by show w.heap.size ≠ w.heap.size + 1 + 1 + 1; omega) (.string y3)).far (p := ⟨w.heap.size + 1 + 1 + 1, 3, none⟩) (by show w.heap.size ≠ w.heap.size + 1 + 1 + 1; omega) (.bool ys))
  replace HO1 := Lib.hid ((((HO1.out.far (p := ⟨w.heap.size + 1 + 1 + 1, 0, none⟩) (by show w.heap.size + 1 ≠ w.heap.size + 1 + 1 + 1; omega) (.int .i64 y1)).far (p := ⟨w.heap.size + 1 + 1 + 1, 1, none⟩) (by show w.heap.size + 1 ≠ w.heap.size + 1 + 1 + 1; omega) (.int .i64 y2)).far (p := ⟨w.heap.size + 1 + 1 + 1, 2, none⟩) (by show w.heap.size + 1 ≠ w.heap.size + 1 + 1 + 1; omega) (.string y3)).far (p := ⟨w.heap.size + 1 + 1 + 1, 3, none⟩) (by show w.heap.size + 1 ≠ w.heap.size + 1 + 1 + 1; omega) (.bool ys))
  replace HO2 := Lib.hid ((((HO2.out.far (p := ⟨w.heap.size + 1 + 1 + 1, 0, none⟩) (by show w.heap.size + 1 + 1 ≠ w.heap.size + 1 + 1 + 1; omega) (.int .i64 y1)).far (p := ⟨w.heap.size + 1 + 1 + 1, 1, none⟩) (by show w.heap.size + 1 + 1 ≠ w.heap.size + 1 + 1 + 1; omega) (.int .i64 y2)).far (p := ⟨w.heap.size + 1 + 1 + 1, 2, none⟩) (by show w.heap.size + 1 + 1 ≠ w.heap.size + 1 + 1 + 1; omega) (.string y3)).far (p := ⟨w.heap.size + 1 + 1 + 1, 3, none⟩) (by show w.heap.size + 1 + 1 ≠ w.heap.size + 1 + 1 + 1; omega) (.bool ys))
  replace HO3 := HXO
  replace HB := HXB
  clear HXO HXB
  with_reducible refine (HC.out _).mono ?_
  rintro e' w2 ⟨rfl, hb⟩
  replace HO0 := Lib.hid (HO0.out.below hb HO0.out.lt)
  replace HO1 := Lib.hid (HO1.out.below hb HO1.out.lt)
  replace HO2 := Lib.hid (HO2.out.below hb HO2.out.lt)
  replace HO3 := Lib.hid (HO3.out.below hb HO3.out.lt)
  replace HB := Lib.hid (HB.out.trans (hb.mono HB.out.size))
  clear hb
  have c2_0 := HO2.out.cell 0
  have c2_1 := HO2.out.cell 1
  have c2_2 := HO2.out.cell 2
  have c2_3 := HO2.out.cell 3
  have c2_4 := HO2.out.cell 4
  have c2_5 := HO2.out.cell 5
  have c2_6 := HO2.out.cell 6
  have c2_7 := HO2.out.cell 7
  have c2_8 := HO2.out.cell 8
  have m2_0 := HO2.out.free 0
  have m2_1 := HO2.out.free 1
  have m2_2 := HO2.out.free 2
  have m2_3 := HO2.out.free 3
  have m2_4 := HO2.out.free 4
  have m2_5 := HO2.out.free 5
  have m2_6 := HO2.out.free 6
  have m2_7 := HO2.out.free 7
  have m2_8 := HO2.out.free 8
  go_wp2
  clear c2_0 c2_1 c2_2 c2_3 c2_4 c2_5 c2_6 c2_7 c2_8 m2_0 m2_1 m2_2 m2_3 m2_4 m2_5 m2_6 m2_7 m2_8
  have hxo := (((((((((HO2.out.store 0 (.int .i64 r.lo.1)).store 1 (.int .i64 r.lo.2.1)).store 2 (.string r.lo.2.2)).store 3 (.bool r.ls)).store 4 (.int .i64 r.hi.1)).store 5 (.int .i64 r.hi.2.1)).store 6 (.string r.hi.2.2)).store 7 (.bool r.hs)).store 8 (.bool r.im))
  simp only [List.setIfInBounds_toArray, List.set_cons_zero, List.set_cons_succ] at hxo
  have HXO := Lib.hid hxo
  clear hxo
  have HXB := Lib.hid ((((((((((HB.out.setCell (p := ⟨w.heap.size + 1 + 1, 0, none⟩) (by show w.heap.size ≤ w.heap.size + 1 + 1; omega) (.int .i64 r.lo.1)).setCell (p := ⟨w.heap.size + 1 + 1, 1, none⟩) (by show w.heap.size ≤ w.heap.size + 1 + 1; omega) (.int .i64 r.lo.2.1)).setCell (p := ⟨w.heap.size + 1 + 1, 2, none⟩) (by show w.heap.size ≤ w.heap.size + 1 + 1; omega) (.string r.lo.2.2)).setCell (p := ⟨w.heap.size + 1 + 1, 3, none⟩) (by show w.heap.size ≤ w.heap.size + 1 + 1; omega) (.bool r.ls)).setCell (p := ⟨w.heap.size + 1 + 1, 4, none⟩) (by show w.heap.size ≤ w.heap.size + 1 + 1; omega) (.int .i64 r.hi.1)).setCell (p := ⟨w.heap.size + 1 + 1, 5, none⟩) (by show w.heap.size ≤ w.heap.size + 1 + 1; omega) (.int .i64 r.hi.2.1)).setCell (p := ⟨w.heap.size + 1 + 1, 6, none⟩) (by show w.heap.size ≤ w.heap.size + 1 + 1; omega) (.string r.hi.2.2)).setCell (p := ⟨w.heap.size + 1 + 1, 7, none⟩) (by show w.heap.size ≤ w.heap.size + 1 + 1; omega) (.bool r.hs)).setCell (p := ⟨w.heap.size + 1 + 1, 8, none⟩) (by show w.heap.size ≤ w.heap.size + 1 + 1; omega) (.bool r.im)))
  replace HO0 := Lib.hid (((((((((HO0.out.far (p := ⟨w.heap.size + 1 + 1, 0, none⟩) (by show w.heap.size ≠ w.heap.size + 1 + 1; omega) (.int .i64 r.lo.1)).far (p := ⟨w.heap.size + 1 + 1, 1, none⟩) (by show w.heap.size ≠ w.heap.size + 1 + 1; omega) (.int .i64 r.lo.2.1)).far (p := ⟨w.heap.size + 1 + 1, 2, none⟩) (by show w.heap.size ≠ w.heap.size + 1 + 1; omega) (.string r.lo.2.2)).far (p := ⟨w.heap.size + 1 + 1, 3, none⟩) (by show w.heap.size ≠ w.heap.size + 1 + 1; omega) (.bool r.ls)).far (p := ⟨w.heap.size + 1 + 1, 4, none⟩) (by show w.heap.size ≠ w.heap.size + 1 + 1; omega) (.int .i64 r.hi.1)).far (p := ⟨w.heap.size + 1 + 1, 5, none⟩) (by show w.heap.size ≠ w.heap.size + 1 + 1; omega) (.int .i64 r.hi.2.1)).far (p := ⟨w.heap.size + 1 + 1, 6, none⟩) (by show w.heap.size ≠ w.heap.size + 1 + 1; omega) (.string r.hi.2.2)).far (p := ⟨w.heap.size + 1 + 1, 7, none⟩) (by show w.heap.size ≠ w.heap.size + 1 + 1; omega) (.bool r.hs)).far (p := ⟨w.heap.size + 1 + 1, 8, none⟩) (by show w.heap.size ≠ w.heap.size + 1 + 1; omega) (.bool r.im))
  replace HO1 := Lib.hid (((((((((HO1.out.far (p := ⟨w.heap.size + 1 + 1, 0, none⟩) (by show w.heap.size + 1 ≠ w.heap.size + 1 + 1; omega) (.int .i64 r.lo.1)).far (p := ⟨w.heap.size + 1 + 1, 1, none⟩) (by show w.heap.size + 1 ≠ w.heap.size + 1 + 1; omega) (.int .i64 r.lo.2.1)).far (p := ⟨w.heap.size + 1 + 1, 2, none⟩) (by show w.heap.size + 1 ≠ w.heap.size + 1 + 1; omega) (.string r.lo.2.2)).far (p := ⟨w.heap.size + 1 + 1, 3, none⟩) (by show w.heap.size + 1 ≠ w.heap.size + 1 + 1; omega) (.bool r.ls)).far (p := ⟨w.heap.size + 1 + 1, 4, none⟩) (by show w.heap.size + 1 ≠ w.heap.size + 1 + 1; omega) (.int .i64 r.hi.1)).far (p := ⟨w.heap.size + 1 + 1, 5, none⟩) (by show w.heap.size + 1 ≠ w.heap.size + 1 + 1; omega) (.int .i64 r.hi.2.1)).far (p := ⟨w.heap.size + 1 + 1, 6, none⟩) (by show w.heap.size + 1 ≠ w.heap.size + 1 + 1; omega) (.string r.hi.2.2)).far (p := ⟨w.heap.size + 1 + 1, 7, none⟩) (by show w.heap.size + 1 ≠ w.heap.size + 1 + 1; omega) (.bool r.hs)).far (p := ⟨w.heap.size + 1 + 1, 8, none⟩) (by show w.heap.size + 1 ≠ w.heap.size + 1 + 1; omega) (.bool r.im))
  replace HO3 := Lib.hid (((((((((HO3.out.far (p := ⟨w.heap.size + 1 + 1, 0, none⟩) (by show w.heap.size + 1 + 1 + 1 ≠ w.heap.size + 1 + 1; omega) (.int .i64 r.lo.1)).far (p := ⟨w.heap.size + 1 + 1, 1, none⟩) (by show w.heap.size + 1 + 1 + 1 ≠ w.heap.size + 1 + 1; omega) (.int .i64 r.lo.2.1)).far (p := ⟨w.heap.size + 1 + 1, 2, none⟩) (by show w.heap.size + 1 + 1 + 1 ≠ w.heap.size + 1 + 1; omega) (.string r.lo.2.2)).far (p := ⟨w.heap.size + 1 + 1, 3, none⟩) (by show w.heap.size + 1 + 1 + 1 ≠ w.heap.size + 1 + 1; omega) (.bool r.ls)).far (p := ⟨w.heap.size + 1 + 1, 4, none⟩) (by show w.heap.size + 1 + 1 + 1 ≠ w.heap.size + 1 + 1; omega) (.int .i64 r.hi.1)).far (p := ⟨w.heap.size + 1 + 1, 5, none⟩) (by show w.heap.size + 1 + 1 + 1 ≠ w.heap.size + 1 + 1; omega) (.int .i64 r.hi.2.1)).far (p := ⟨w.heap.size + 1 + 1, 6, none⟩) (by show w.heap.size + 1 + 1 + 1 ≠ w.heap.size + 1 + 1; omega) (.string r.hi.2.2)).far (p := ⟨w.heap.size + 1 + 1, 7, none⟩) (by show w.heap.size + 1 + 1 + 1 ≠ w.heap.size + 1 + 1; omega) (.bool r.hs)).far (p := ⟨w.heap.size + 1 + 1, 8, none⟩) (by show w.heap.size + 1 + 1 + 1 ≠ w.heap.size + 1 + 1; omega) (.bool r.im))
  replace HO2 := HXO
  replace HB := HXB
  clear HXO HXB
  (try simp only [Exit.inBlock, Exit.then]); refine bodyPost_ret_by (results_cell_row1 (by rfl) _ _ (w.heap.size + 1 + 1) _ (by rfl) (load_itv HO2.out)) ?_ ?_; (focus rfl); (try dsimp only)
  exact ⟨rfl, HB.out⟩
set_option maxRecDepth 100000 in
set_option maxHeartbeats 6400000 in
theorem nar_10 (a1 a2 : Int) (a3 : ByteArray) (ls : Bool) (b1 b2 : Int) (b3 : ByteArray) (hs im : Bool) (op cl n : Int) (t : ByteArray) (hv : -1125899906842624 ≤ n ∧ n ≤ 1125899906842624) (hop : op ≠ 7 ∧ op ≠ 11 ∧ op ≠ 12 ∧ op ≠ 9) (w : World) :
    Calls Try.prog 39 #[.agg #[.int .i64 a1, .int .i64 a2, .string a3, .bool ls, .int .i64 b1, .int .i64 b2, .string b3, .bool hs, .bool im], .agg #[.int .i64 op, .int .i64 cl, .int .i64 a1, .int .i64 n, .string t]] w fun e w' => e = .returned (itvV (blwI ⟨(a1, a2, a3), ls, (b1, b2, b3), hs, im⟩ (a1, n, t) false)) ∧ Below w.heap.size w w' := by
  have HC := Lib.hid (fun W => pBlw_any ⟨(a1, a2, a3), ls, (b1, b2, b3), hs, im⟩ (a1, n, t) false W)
  generalize blwI ⟨(a1, a2, a3), ls, (b1, b2, b3), hs, im⟩ (a1, n, t) false = r at *
  unfold itvV bndV at *
  dsimp only at *
  have q7 : (op == 7) = false := by rw [beq_eq_false_iff_ne]; omega
  have q11 : (op == 11) = false := by rw [beq_eq_false_iff_ne]; omega
  have q12 : (op == 12) = false := by rw [beq_eq_false_iff_ne]; omega
  have q9 : (op == 9) = false := by rw [beq_eq_false_iff_ne]; omega
  have HO0 := Lib.hid (show Own ((((w.alloc (.cells #[.int .i64 a1, .int .i64 a2, .string a3, .bool ls, .int .i64 b1, .int .i64 b2, .string b3, .bool hs, .bool im] 70)).alloc (.cells #[.int .i64 op, .int .i64 cl, .int .i64 a1, .int .i64 n, .string t] 62)).alloc (.cells #[.int .i64 0, .int .i64 0, .string ⟨#[]⟩, .bool false, .int .i64 0, .int .i64 0, .string ⟨#[]⟩, .bool false, .bool false] 70)).alloc (.cells #[.int .i64 a1, .int .i64 n, .string t, .bool false] 68)) (w.heap.size) 70 #[.int .i64 a1, .int .i64 a2, .string a3, .bool ls, .int .i64 b1, .int .i64 b2, .string b3, .bool hs, .bool im] from by have h := Own.new w 70 #[.int .i64 a1, .int .i64 a2, .string a3, .bool ls, .int .i64 b1, .int .i64 b2, .string b3, .bool hs, .bool im]; (try simp only [World.size_alloc] at h); exact (((h.alloc (.cells #[.int .i64 op, .int .i64 cl, .int .i64 a1, .int .i64 n, .string t] 62)).alloc (.cells #[.int .i64 0, .int .i64 0, .string ⟨#[]⟩, .bool false, .int .i64 0, .int .i64 0, .string ⟨#[]⟩, .bool false, .bool false] 70)).alloc (.cells #[.int .i64 a1, .int .i64 n, .string t, .bool false] 68)))
  have HO1 := Lib.hid (show Own ((((w.alloc (.cells #[.int .i64 a1, .int .i64 a2, .string a3, .bool ls, .int .i64 b1, .int .i64 b2, .string b3, .bool hs, .bool im] 70)).alloc (.cells #[.int .i64 op, .int .i64 cl, .int .i64 a1, .int .i64 n, .string t] 62)).alloc (.cells #[.int .i64 0, .int .i64 0, .string ⟨#[]⟩, .bool false, .int .i64 0, .int .i64 0, .string ⟨#[]⟩, .bool false, .bool false] 70)).alloc (.cells #[.int .i64 a1, .int .i64 n, .string t, .bool false] 68)) (w.heap.size + 1) 62 #[.int .i64 op, .int .i64 cl, .int .i64 a1, .int .i64 n, .string t] from by have h := Own.new (w.alloc (.cells #[.int .i64 a1, .int .i64 a2, .string a3, .bool ls, .int .i64 b1, .int .i64 b2, .string b3, .bool hs, .bool im] 70)) 62 #[.int .i64 op, .int .i64 cl, .int .i64 a1, .int .i64 n, .string t]; (try simp only [World.size_alloc] at h); exact ((h.alloc (.cells #[.int .i64 0, .int .i64 0, .string ⟨#[]⟩, .bool false, .int .i64 0, .int .i64 0, .string ⟨#[]⟩, .bool false, .bool false] 70)).alloc (.cells #[.int .i64 a1, .int .i64 n, .string t, .bool false] 68)))
  have HO2 := Lib.hid (show Own ((((w.alloc (.cells #[.int .i64 a1, .int .i64 a2, .string a3, .bool ls, .int .i64 b1, .int .i64 b2, .string b3, .bool hs, .bool im] 70)).alloc (.cells #[.int .i64 op, .int .i64 cl, .int .i64 a1, .int .i64 n, .string t] 62)).alloc (.cells #[.int .i64 0, .int .i64 0, .string ⟨#[]⟩, .bool false, .int .i64 0, .int .i64 0, .string ⟨#[]⟩, .bool false, .bool false] 70)).alloc (.cells #[.int .i64 a1, .int .i64 n, .string t, .bool false] 68)) (w.heap.size + 1 + 1) 70 #[.int .i64 0, .int .i64 0, .string ⟨#[]⟩, .bool false, .int .i64 0, .int .i64 0, .string ⟨#[]⟩, .bool false, .bool false] from by have h := Own.new ((w.alloc (.cells #[.int .i64 a1, .int .i64 a2, .string a3, .bool ls, .int .i64 b1, .int .i64 b2, .string b3, .bool hs, .bool im] 70)).alloc (.cells #[.int .i64 op, .int .i64 cl, .int .i64 a1, .int .i64 n, .string t] 62)) 70 #[.int .i64 0, .int .i64 0, .string ⟨#[]⟩, .bool false, .int .i64 0, .int .i64 0, .string ⟨#[]⟩, .bool false, .bool false]; (try simp only [World.size_alloc] at h); exact (h.alloc (.cells #[.int .i64 a1, .int .i64 n, .string t, .bool false] 68)))
  have HO3 := Lib.hid (show Own ((((w.alloc (.cells #[.int .i64 a1, .int .i64 a2, .string a3, .bool ls, .int .i64 b1, .int .i64 b2, .string b3, .bool hs, .bool im] 70)).alloc (.cells #[.int .i64 op, .int .i64 cl, .int .i64 a1, .int .i64 n, .string t] 62)).alloc (.cells #[.int .i64 0, .int .i64 0, .string ⟨#[]⟩, .bool false, .int .i64 0, .int .i64 0, .string ⟨#[]⟩, .bool false, .bool false] 70)).alloc (.cells #[.int .i64 a1, .int .i64 n, .string t, .bool false] 68)) (w.heap.size + 1 + 1 + 1) 68 #[.int .i64 a1, .int .i64 n, .string t, .bool false] from by have h := Own.new (((w.alloc (.cells #[.int .i64 a1, .int .i64 a2, .string a3, .bool ls, .int .i64 b1, .int .i64 b2, .string b3, .bool hs, .bool im] 70)).alloc (.cells #[.int .i64 op, .int .i64 cl, .int .i64 a1, .int .i64 n, .string t] 62)).alloc (.cells #[.int .i64 0, .int .i64 0, .string ⟨#[]⟩, .bool false, .int .i64 0, .int .i64 0, .string ⟨#[]⟩, .bool false, .bool false] 70)) 68 #[.int .i64 a1, .int .i64 n, .string t, .bool false]; (try simp only [World.size_alloc] at h); exact h)
  have HB := Lib.hid (show Below w.heap.size w ((((w.alloc (.cells #[.int .i64 a1, .int .i64 a2, .string a3, .bool ls, .int .i64 b1, .int .i64 b2, .string b3, .bool hs, .bool im] 70)).alloc (.cells #[.int .i64 op, .int .i64 cl, .int .i64 a1, .int .i64 n, .string t] 62)).alloc (.cells #[.int .i64 0, .int .i64 0, .string ⟨#[]⟩, .bool false, .int .i64 0, .int .i64 0, .string ⟨#[]⟩, .bool false, .bool false] 70)).alloc (.cells #[.int .i64 a1, .int .i64 n, .string t, .bool false] 68)) from (((bel_mk w (.cells #[.int .i64 a1, .int .i64 a2, .string a3, .bool ls, .int .i64 b1, .int .i64 b2, .string b3, .bool hs, .bool im] 70)).trans ((bel_mk (w.alloc (.cells #[.int .i64 a1, .int .i64 a2, .string a3, .bool ls, .int .i64 b1, .int .i64 b2, .string b3, .bool hs, .bool im] 70)) (.cells #[.int .i64 op, .int .i64 cl, .int .i64 a1, .int .i64 n, .string t] 62)).mono (by simp only [World.size_alloc]; omega))).trans ((bel_mk ((w.alloc (.cells #[.int .i64 a1, .int .i64 a2, .string a3, .bool ls, .int .i64 b1, .int .i64 b2, .string b3, .bool hs, .bool im] 70)).alloc (.cells #[.int .i64 op, .int .i64 cl, .int .i64 a1, .int .i64 n, .string t] 62)) (.cells #[.int .i64 0, .int .i64 0, .string ⟨#[]⟩, .bool false, .int .i64 0, .int .i64 0, .string ⟨#[]⟩, .bool false, .bool false] 70)).mono (by simp only [World.size_alloc]; omega))).trans ((bel_mk (((w.alloc (.cells #[.int .i64 a1, .int .i64 a2, .string a3, .bool ls, .int .i64 b1, .int .i64 b2, .string b3, .bool hs, .bool im] 70)).alloc (.cells #[.int .i64 op, .int .i64 cl, .int .i64 a1, .int .i64 n, .string t] 62)).alloc (.cells #[.int .i64 0, .int .i64 0, .string ⟨#[]⟩, .bool false, .int .i64 0, .int .i64 0, .string ⟨#[]⟩, .bool false, .bool false] 70)) (.cells #[.int .i64 a1, .int .i64 n, .string t, .bool false] 68)).mono (by simp only [World.size_alloc]; omega)))
  go_enter Try.func39, Try.ntmps39
  go_wp2_with fail
  with_reducible refine (HC.out _).mono ?_
  rintro e' w1 ⟨rfl, hb⟩
  replace HO0 := Lib.hid (HO0.out.below hb HO0.out.lt)
  replace HO1 := Lib.hid (HO1.out.below hb HO1.out.lt)
  replace HO2 := Lib.hid (HO2.out.below hb HO2.out.lt)
  replace HO3 := Lib.hid (HO3.out.below hb HO3.out.lt)
  replace HB := Lib.hid (HB.out.trans (hb.mono HB.out.size))
  clear hb
  have c2_0 := HO2.out.cell 0
  have c2_1 := HO2.out.cell 1
  have c2_2 := HO2.out.cell 2
  have c2_3 := HO2.out.cell 3
  have c2_4 := HO2.out.cell 4
  have c2_5 := HO2.out.cell 5
  have c2_6 := HO2.out.cell 6
  have c2_7 := HO2.out.cell 7
  have c2_8 := HO2.out.cell 8
  have m2_0 := HO2.out.free 0
  have m2_1 := HO2.out.free 1
  have m2_2 := HO2.out.free 2
  have m2_3 := HO2.out.free 3
  have m2_4 := HO2.out.free 4
  have m2_5 := HO2.out.free 5
  have m2_6 := HO2.out.free 6
  have m2_7 := HO2.out.free 7
  have m2_8 := HO2.out.free 8
  go_wp2
  clear c2_0 c2_1 c2_2 c2_3 c2_4 c2_5 c2_6 c2_7 c2_8 m2_0 m2_1 m2_2 m2_3 m2_4 m2_5 m2_6 m2_7 m2_8
  have hxo := (((((((((HO2.out.store 0 (.int .i64 r.lo.1)).store 1 (.int .i64 r.lo.2.1)).store 2 (.string r.lo.2.2)).store 3 (.bool r.ls)).store 4 (.int .i64 r.hi.1)).store 5 (.int .i64 r.hi.2.1)).store 6 (.string r.hi.2.2)).store 7 (.bool r.hs)).store 8 (.bool r.im))
  simp only [List.setIfInBounds_toArray, List.set_cons_zero, List.set_cons_succ] at hxo
  have HXO := Lib.hid hxo
  clear hxo
  have HXB := Lib.hid ((((((((((HB.out.setCell (p := ⟨w.heap.size + 1 + 1, 0, none⟩) (by show w.heap.size ≤ w.heap.size + 1 + 1; omega) (.int .i64 r.lo.1)).setCell (p := ⟨w.heap.size + 1 + 1, 1, none⟩) (by show w.heap.size ≤ w.heap.size + 1 + 1; omega) (.int .i64 r.lo.2.1)).setCell (p := ⟨w.heap.size + 1 + 1, 2, none⟩) (by show w.heap.size ≤ w.heap.size + 1 + 1; omega) (.string r.lo.2.2)).setCell (p := ⟨w.heap.size + 1 + 1, 3, none⟩) (by show w.heap.size ≤ w.heap.size + 1 + 1; omega) (.bool r.ls)).setCell (p := ⟨w.heap.size + 1 + 1, 4, none⟩) (by show w.heap.size ≤ w.heap.size + 1 + 1; omega) (.int .i64 r.hi.1)).setCell (p := ⟨w.heap.size + 1 + 1, 5, none⟩) (by show w.heap.size ≤ w.heap.size + 1 + 1; omega) (.int .i64 r.hi.2.1)).setCell (p := ⟨w.heap.size + 1 + 1, 6, none⟩) (by show w.heap.size ≤ w.heap.size + 1 + 1; omega) (.string r.hi.2.2)).setCell (p := ⟨w.heap.size + 1 + 1, 7, none⟩) (by show w.heap.size ≤ w.heap.size + 1 + 1; omega) (.bool r.hs)).setCell (p := ⟨w.heap.size + 1 + 1, 8, none⟩) (by show w.heap.size ≤ w.heap.size + 1 + 1; omega) (.bool r.im)))
  replace HO0 := Lib.hid (((((((((HO0.out.far (p := ⟨w.heap.size + 1 + 1, 0, none⟩) (by show w.heap.size ≠ w.heap.size + 1 + 1; omega) (.int .i64 r.lo.1)).far (p := ⟨w.heap.size + 1 + 1, 1, none⟩) (by show w.heap.size ≠ w.heap.size + 1 + 1; omega) (.int .i64 r.lo.2.1)).far (p := ⟨w.heap.size + 1 + 1, 2, none⟩) (by show w.heap.size ≠ w.heap.size + 1 + 1; omega) (.string r.lo.2.2)).far (p := ⟨w.heap.size + 1 + 1, 3, none⟩) (by show w.heap.size ≠ w.heap.size + 1 + 1; omega) (.bool r.ls)).far (p := ⟨w.heap.size + 1 + 1, 4, none⟩) (by show w.heap.size ≠ w.heap.size + 1 + 1; omega) (.int .i64 r.hi.1)).far (p := ⟨w.heap.size + 1 + 1, 5, none⟩) (by show w.heap.size ≠ w.heap.size + 1 + 1; omega) (.int .i64 r.hi.2.1)).far (p := ⟨w.heap.size + 1 + 1, 6, none⟩) (by show w.heap.size ≠ w.heap.size + 1 + 1; omega) (.string r.hi.2.2)).far (p := ⟨w.heap.size + 1 + 1, 7, none⟩) (by show w.heap.size ≠ w.heap.size + 1 + 1; omega) (.bool r.hs)).far (p := ⟨w.heap.size + 1 + 1, 8, none⟩) (by show w.heap.size ≠ w.heap.size + 1 + 1; omega) (.bool r.im))
  replace HO1 := Lib.hid (((((((((HO1.out.far (p := ⟨w.heap.size + 1 + 1, 0, none⟩) (by show w.heap.size + 1 ≠ w.heap.size + 1 + 1; omega) (.int .i64 r.lo.1)).far (p := ⟨w.heap.size + 1 + 1, 1, none⟩) (by show w.heap.size + 1 ≠ w.heap.size + 1 + 1; omega) (.int .i64 r.lo.2.1)).far (p := ⟨w.heap.size + 1 + 1, 2, none⟩) (by show w.heap.size + 1 ≠ w.heap.size + 1 + 1; omega) (.string r.lo.2.2)).far (p := ⟨w.heap.size + 1 + 1, 3, none⟩) (by show w.heap.size + 1 ≠ w.heap.size + 1 + 1; omega) (.bool r.ls)).far (p := ⟨w.heap.size + 1 + 1, 4, none⟩) (by show w.heap.size + 1 ≠ w.heap.size + 1 + 1; omega) (.int .i64 r.hi.1)).far (p := ⟨w.heap.size + 1 + 1, 5, none⟩) (by show w.heap.size + 1 ≠ w.heap.size + 1 + 1; omega) (.int .i64 r.hi.2.1)).far (p := ⟨w.heap.size + 1 + 1, 6, none⟩) (by show w.heap.size + 1 ≠ w.heap.size + 1 + 1; omega) (.string r.hi.2.2)).far (p := ⟨w.heap.size + 1 + 1, 7, none⟩) (by show w.heap.size + 1 ≠ w.heap.size + 1 + 1; omega) (.bool r.hs)).far (p := ⟨w.heap.size + 1 + 1, 8, none⟩) (by show w.heap.size + 1 ≠ w.heap.size + 1 + 1; omega) (.bool r.im))
  replace HO3 := Lib.hid (((((((((HO3.out.far (p := ⟨w.heap.size + 1 + 1, 0, none⟩) (by show w.heap.size + 1 + 1 + 1 ≠ w.heap.size + 1 + 1; omega) (.int .i64 r.lo.1)).far (p := ⟨w.heap.size + 1 + 1, 1, none⟩) (by show w.heap.size + 1 + 1 + 1 ≠ w.heap.size + 1 + 1; omega) (.int .i64 r.lo.2.1)).far (p := ⟨w.heap.size + 1 + 1, 2, none⟩) (by show w.heap.size + 1 + 1 + 1 ≠ w.heap.size + 1 + 1; omega) (.string r.lo.2.2)).far (p := ⟨w.heap.size + 1 + 1, 3, none⟩) (by show w.heap.size + 1 + 1 + 1 ≠ w.heap.size + 1 + 1; omega) (.bool r.ls)).far (p := ⟨w.heap.size + 1 + 1, 4, none⟩) (by show w.heap.size + 1 + 1 + 1 ≠ w.heap.size + 1 + 1; omega) (.int .i64 r.hi.1)).far (p := ⟨w.heap.size + 1 + 1, 5, none⟩) (by show w.heap.size + 1 + 1 + 1 ≠ w.heap.size + 1 + 1; omega) (.int .i64 r.hi.2.1)).far (p := ⟨w.heap.size + 1 + 1, 6, none⟩) (by show w.heap.size + 1 + 1 + 1 ≠ w.heap.size + 1 + 1; omega) (.string r.hi.2.2)).far (p := ⟨w.heap.size + 1 + 1, 7, none⟩) (by show w.heap.size + 1 + 1 + 1 ≠ w.heap.size + 1 + 1; omega) (.bool r.hs)).far (p := ⟨w.heap.size + 1 + 1, 8, none⟩) (by show w.heap.size + 1 + 1 + 1 ≠ w.heap.size + 1 + 1; omega) (.bool r.im))
  replace HO2 := HXO
  replace HB := HXB
  clear HXO HXB
  (try simp only [Exit.inBlock, Exit.then]); refine bodyPost_ret_by (results_cell_row1 (by rfl) _ _ (w.heap.size + 1 + 1) _ (by rfl) (load_itv HO2.out)) ?_ ?_; (focus rfl); (try dsimp only)
  exact ⟨rfl, HB.out⟩
set_option maxRecDepth 100000 in
set_option maxHeartbeats 6400000 in
theorem nar_7 (a1 a2 : Int) (a3 : ByteArray) (ls : Bool) (b1 b2 : Int) (b3 : ByteArray) (hs im : Bool) (cl n : Int) (t : ByteArray) (w : World) :
    Calls Try.prog 39 #[.agg #[.int .i64 a1, .int .i64 a2, .string a3, .bool ls, .int .i64 b1, .int .i64 b2, .string b3, .bool hs, .bool im], .agg #[.int .i64 7, .int .i64 cl, .int .i64 a1, .int .i64 n, .string t]] w fun e w' => e = .returned (itvV (blwI (abvI ⟨(a1, a2, a3), ls, (b1, b2, b3), hs, im⟩ (a1, n, t) false) (a1, n, t) false)) ∧ Below w.heap.size w w' := by
  have HC := Lib.hid (fun W => pAbv_any ⟨(a1, a2, a3), ls, (b1, b2, b3), hs, im⟩ (a1, n, t) false W)
  generalize abvI ⟨(a1, a2, a3), ls, (b1, b2, b3), hs, im⟩ (a1, n, t) false = m at *
  have HC2 := Lib.hid (fun W => pBlw_any m (a1, n, t) false W)
  generalize blwI m (a1, n, t) false = r at *
  unfold itvV bndV at *
  dsimp only at *
  have HO0 := Lib.hid (show Own ((((w.alloc (.cells #[.int .i64 a1, .int .i64 a2, .string a3, .bool ls, .int .i64 b1, .int .i64 b2, .string b3, .bool hs, .bool im] 70)).alloc (.cells #[.int .i64 7, .int .i64 cl, .int .i64 a1, .int .i64 n, .string t] 62)).alloc (.cells #[.int .i64 0, .int .i64 0, .string ⟨#[]⟩, .bool false, .int .i64 0, .int .i64 0, .string ⟨#[]⟩, .bool false, .bool false] 70)).alloc (.cells #[.int .i64 a1, .int .i64 n, .string t, .bool false] 68)) (w.heap.size) 70 #[.int .i64 a1, .int .i64 a2, .string a3, .bool ls, .int .i64 b1, .int .i64 b2, .string b3, .bool hs, .bool im] from by have h := Own.new w 70 #[.int .i64 a1, .int .i64 a2, .string a3, .bool ls, .int .i64 b1, .int .i64 b2, .string b3, .bool hs, .bool im]; (try simp only [World.size_alloc] at h); exact (((h.alloc (.cells #[.int .i64 7, .int .i64 cl, .int .i64 a1, .int .i64 n, .string t] 62)).alloc (.cells #[.int .i64 0, .int .i64 0, .string ⟨#[]⟩, .bool false, .int .i64 0, .int .i64 0, .string ⟨#[]⟩, .bool false, .bool false] 70)).alloc (.cells #[.int .i64 a1, .int .i64 n, .string t, .bool false] 68)))
  have HO1 := Lib.hid (show Own ((((w.alloc (.cells #[.int .i64 a1, .int .i64 a2, .string a3, .bool ls, .int .i64 b1, .int .i64 b2, .string b3, .bool hs, .bool im] 70)).alloc (.cells #[.int .i64 7, .int .i64 cl, .int .i64 a1, .int .i64 n, .string t] 62)).alloc (.cells #[.int .i64 0, .int .i64 0, .string ⟨#[]⟩, .bool false, .int .i64 0, .int .i64 0, .string ⟨#[]⟩, .bool false, .bool false] 70)).alloc (.cells #[.int .i64 a1, .int .i64 n, .string t, .bool false] 68)) (w.heap.size + 1) 62 #[.int .i64 7, .int .i64 cl, .int .i64 a1, .int .i64 n, .string t] from by have h := Own.new (w.alloc (.cells #[.int .i64 a1, .int .i64 a2, .string a3, .bool ls, .int .i64 b1, .int .i64 b2, .string b3, .bool hs, .bool im] 70)) 62 #[.int .i64 7, .int .i64 cl, .int .i64 a1, .int .i64 n, .string t]; (try simp only [World.size_alloc] at h); exact ((h.alloc (.cells #[.int .i64 0, .int .i64 0, .string ⟨#[]⟩, .bool false, .int .i64 0, .int .i64 0, .string ⟨#[]⟩, .bool false, .bool false] 70)).alloc (.cells #[.int .i64 a1, .int .i64 n, .string t, .bool false] 68)))
  have HO2 := Lib.hid (show Own ((((w.alloc (.cells #[.int .i64 a1, .int .i64 a2, .string a3, .bool ls, .int .i64 b1, .int .i64 b2, .string b3, .bool hs, .bool im] 70)).alloc (.cells #[.int .i64 7, .int .i64 cl, .int .i64 a1, .int .i64 n, .string t] 62)).alloc (.cells #[.int .i64 0, .int .i64 0, .string ⟨#[]⟩, .bool false, .int .i64 0, .int .i64 0, .string ⟨#[]⟩, .bool false, .bool false] 70)).alloc (.cells #[.int .i64 a1, .int .i64 n, .string t, .bool false] 68)) (w.heap.size + 1 + 1) 70 #[.int .i64 0, .int .i64 0, .string ⟨#[]⟩, .bool false, .int .i64 0, .int .i64 0, .string ⟨#[]⟩, .bool false, .bool false] from by have h := Own.new ((w.alloc (.cells #[.int .i64 a1, .int .i64 a2, .string a3, .bool ls, .int .i64 b1, .int .i64 b2, .string b3, .bool hs, .bool im] 70)).alloc (.cells #[.int .i64 7, .int .i64 cl, .int .i64 a1, .int .i64 n, .string t] 62)) 70 #[.int .i64 0, .int .i64 0, .string ⟨#[]⟩, .bool false, .int .i64 0, .int .i64 0, .string ⟨#[]⟩, .bool false, .bool false]; (try simp only [World.size_alloc] at h); exact (h.alloc (.cells #[.int .i64 a1, .int .i64 n, .string t, .bool false] 68)))
  have HO3 := Lib.hid (show Own ((((w.alloc (.cells #[.int .i64 a1, .int .i64 a2, .string a3, .bool ls, .int .i64 b1, .int .i64 b2, .string b3, .bool hs, .bool im] 70)).alloc (.cells #[.int .i64 7, .int .i64 cl, .int .i64 a1, .int .i64 n, .string t] 62)).alloc (.cells #[.int .i64 0, .int .i64 0, .string ⟨#[]⟩, .bool false, .int .i64 0, .int .i64 0, .string ⟨#[]⟩, .bool false, .bool false] 70)).alloc (.cells #[.int .i64 a1, .int .i64 n, .string t, .bool false] 68)) (w.heap.size + 1 + 1 + 1) 68 #[.int .i64 a1, .int .i64 n, .string t, .bool false] from by have h := Own.new (((w.alloc (.cells #[.int .i64 a1, .int .i64 a2, .string a3, .bool ls, .int .i64 b1, .int .i64 b2, .string b3, .bool hs, .bool im] 70)).alloc (.cells #[.int .i64 7, .int .i64 cl, .int .i64 a1, .int .i64 n, .string t] 62)).alloc (.cells #[.int .i64 0, .int .i64 0, .string ⟨#[]⟩, .bool false, .int .i64 0, .int .i64 0, .string ⟨#[]⟩, .bool false, .bool false] 70)) 68 #[.int .i64 a1, .int .i64 n, .string t, .bool false]; (try simp only [World.size_alloc] at h); exact h)
  have HB := Lib.hid (show Below w.heap.size w ((((w.alloc (.cells #[.int .i64 a1, .int .i64 a2, .string a3, .bool ls, .int .i64 b1, .int .i64 b2, .string b3, .bool hs, .bool im] 70)).alloc (.cells #[.int .i64 7, .int .i64 cl, .int .i64 a1, .int .i64 n, .string t] 62)).alloc (.cells #[.int .i64 0, .int .i64 0, .string ⟨#[]⟩, .bool false, .int .i64 0, .int .i64 0, .string ⟨#[]⟩, .bool false, .bool false] 70)).alloc (.cells #[.int .i64 a1, .int .i64 n, .string t, .bool false] 68)) from (((bel_mk w (.cells #[.int .i64 a1, .int .i64 a2, .string a3, .bool ls, .int .i64 b1, .int .i64 b2, .string b3, .bool hs, .bool im] 70)).trans ((bel_mk (w.alloc (.cells #[.int .i64 a1, .int .i64 a2, .string a3, .bool ls, .int .i64 b1, .int .i64 b2, .string b3, .bool hs, .bool im] 70)) (.cells #[.int .i64 7, .int .i64 cl, .int .i64 a1, .int .i64 n, .string t] 62)).mono (by simp only [World.size_alloc]; omega))).trans ((bel_mk ((w.alloc (.cells #[.int .i64 a1, .int .i64 a2, .string a3, .bool ls, .int .i64 b1, .int .i64 b2, .string b3, .bool hs, .bool im] 70)).alloc (.cells #[.int .i64 7, .int .i64 cl, .int .i64 a1, .int .i64 n, .string t] 62)) (.cells #[.int .i64 0, .int .i64 0, .string ⟨#[]⟩, .bool false, .int .i64 0, .int .i64 0, .string ⟨#[]⟩, .bool false, .bool false] 70)).mono (by simp only [World.size_alloc]; omega))).trans ((bel_mk (((w.alloc (.cells #[.int .i64 a1, .int .i64 a2, .string a3, .bool ls, .int .i64 b1, .int .i64 b2, .string b3, .bool hs, .bool im] 70)).alloc (.cells #[.int .i64 7, .int .i64 cl, .int .i64 a1, .int .i64 n, .string t] 62)).alloc (.cells #[.int .i64 0, .int .i64 0, .string ⟨#[]⟩, .bool false, .int .i64 0, .int .i64 0, .string ⟨#[]⟩, .bool false, .bool false] 70)) (.cells #[.int .i64 a1, .int .i64 n, .string t, .bool false] 68)).mono (by simp only [World.size_alloc]; omega)))
  go_enter Try.func39, Try.ntmps39
  go_wp2_with fail
  have HD0 := Lib.hid (show Own (((((w.alloc (.cells #[.int .i64 a1, .int .i64 a2, .string a3, .bool ls, .int .i64 b1, .int .i64 b2, .string b3, .bool hs, .bool im] 70)).alloc (.cells #[.int .i64 7, .int .i64 cl, .int .i64 a1, .int .i64 n, .string t] 62)).alloc (.cells #[.int .i64 0, .int .i64 0, .string ⟨#[]⟩, .bool false, .int .i64 0, .int .i64 0, .string ⟨#[]⟩, .bool false, .bool false] 70)).alloc (.cells #[.int .i64 a1, .int .i64 n, .string t, .bool false] 68))).drew _ _ _ from HO0.out)
  have HD2 := Lib.hid (show Own (((((w.alloc (.cells #[.int .i64 a1, .int .i64 a2, .string a3, .bool ls, .int .i64 b1, .int .i64 b2, .string b3, .bool hs, .bool im] 70)).alloc (.cells #[.int .i64 7, .int .i64 cl, .int .i64 a1, .int .i64 n, .string t] 62)).alloc (.cells #[.int .i64 0, .int .i64 0, .string ⟨#[]⟩, .bool false, .int .i64 0, .int .i64 0, .string ⟨#[]⟩, .bool false, .bool false] 70)).alloc (.cells #[.int .i64 a1, .int .i64 n, .string t, .bool false] 68))).drew _ _ _ from HO2.out)
  have HD3 := Lib.hid (show Own (((((w.alloc (.cells #[.int .i64 a1, .int .i64 a2, .string a3, .bool ls, .int .i64 b1, .int .i64 b2, .string b3, .bool hs, .bool im] 70)).alloc (.cells #[.int .i64 7, .int .i64 cl, .int .i64 a1, .int .i64 n, .string t] 62)).alloc (.cells #[.int .i64 0, .int .i64 0, .string ⟨#[]⟩, .bool false, .int .i64 0, .int .i64 0, .string ⟨#[]⟩, .bool false, .bool false] 70)).alloc (.cells #[.int .i64 a1, .int .i64 n, .string t, .bool false] 68))).drew _ _ _ from HO3.out)
  have HDB := Lib.hid (show Below w.heap.size w (((((w.alloc (.cells #[.int .i64 a1, .int .i64 a2, .string a3, .bool ls, .int .i64 b1, .int .i64 b2, .string b3, .bool hs, .bool im] 70)).alloc (.cells #[.int .i64 7, .int .i64 cl, .int .i64 a1, .int .i64 n, .string t] 62)).alloc (.cells #[.int .i64 0, .int .i64 0, .string ⟨#[]⟩, .bool false, .int .i64 0, .int .i64 0, .string ⟨#[]⟩, .bool false, .bool false] 70)).alloc (.cells #[.int .i64 a1, .int .i64 n, .string t, .bool false] 68))).drew from HB.out.drew)
  have d0 := HD3.out.cell 0
  have d1 := HD3.out.cell 1
  have d2 := HD3.out.cell 2
  have d3 := HD3.out.cell 3
  have s0 := HD0.out.cell 0
  have s1 := HD0.out.cell 1
  have s2 := HD0.out.cell 2
  have s3 := HD0.out.cell 3
  have s4 := HD0.out.cell 4
  have s5 := HD0.out.cell 5
  have s6 := HD0.out.cell 6
  have s7 := HD0.out.cell 7
  have s8 := HD0.out.cell 8
  go_region_law (first
    | (go_simp; go_at_call 81; with_reducible refine (HC.out _).mono ?_; rintro e w1 ⟨rfl, hb1⟩; have H2 := Lib.hid (HD2.out.below hb1 HD2.out.lt); have H3 := Lib.hid (HD3.out.below hb1 HD3.out.lt); have H4 := Lib.hid (HDB.out.trans (hb1.mono HDB.out.size)); have u0 := H3.out.cell 0; have u1 := H3.out.cell 1; have u2 := H3.out.cell 2; have u3 := H3.out.cell 3; clear hb1)
    | (go_simp; go_at_call 82; with_reducible refine (HC2.out _).mono ?_; rintro e w2 ⟨rfl, hb2⟩; have K2 := Lib.hid (H2.out.below hb2 H2.out.lt); have K4 := Lib.hid (H4.out.trans (hb2.mono H4.out.size)); have v0 := K2.out.cell 0; have v1 := K2.out.cell 1; have v2 := K2.out.cell 2; have v3 := K2.out.cell 3; have v4 := K2.out.cell 4; have v5 := K2.out.cell 5; have v6 := K2.out.cell 6; have v7 := K2.out.cell 7; have v8 := K2.out.cell 8; have m0 := K2.out.free 0; have m1 := K2.out.free 1; have m2 := K2.out.free 2; have m3 := K2.out.free 3; have m4 := K2.out.free 4; have m5 := K2.out.free 5; have m6 := K2.out.free 6; have m7 := K2.out.free 7; have m8 := K2.out.free 8; clear hb2))
  all_goals
    clear HO0 HO1 HO2 HO3 HB HD0 HD2 HD3 HDB H2 H3 H4 s0 s1 s2 s3 s4 s5 s6 s7 s8 d0 d1 d2 d3 u0 u1 u2 u3
    go_wp2
    have hx := (((((((((K2.out.store 0 (.int .i64 r.lo.1)).store 1 (.int .i64 r.lo.2.1)).store 2 (.string r.lo.2.2)).store 3 (.bool r.ls)).store 4 (.int .i64 r.hi.1)).store 5 (.int .i64 r.hi.2.1)).store 6 (.string r.hi.2.2)).store 7 (.bool r.hs)).store 8 (.bool r.im))
    simp only [List.setIfInBounds_toArray, List.set_cons_zero, List.set_cons_succ] at hx
    (try simp only [Exit.inBlock, Exit.then]); refine bodyPost_ret_by (results_cell_row1 (by rfl) _ _ (w.heap.size + 1 + 1) _ (by rfl) (load_itv hx)) ?_ ?_; (focus rfl); (try dsimp only)
    exact ⟨rfl, (((((((((K4.out.setCell (p := ⟨w.heap.size + 1 + 1, 0, none⟩) (by show w.heap.size ≤ w.heap.size + 1 + 1; omega) (.int .i64 r.lo.1)).setCell (p := ⟨w.heap.size + 1 + 1, 1, none⟩) (by show w.heap.size ≤ w.heap.size + 1 + 1; omega) (.int .i64 r.lo.2.1)).setCell (p := ⟨w.heap.size + 1 + 1, 2, none⟩) (by show w.heap.size ≤ w.heap.size + 1 + 1; omega) (.string r.lo.2.2)).setCell (p := ⟨w.heap.size + 1 + 1, 3, none⟩) (by show w.heap.size ≤ w.heap.size + 1 + 1; omega) (.bool r.ls)).setCell (p := ⟨w.heap.size + 1 + 1, 4, none⟩) (by show w.heap.size ≤ w.heap.size + 1 + 1; omega) (.int .i64 r.hi.1)).setCell (p := ⟨w.heap.size + 1 + 1, 5, none⟩) (by show w.heap.size ≤ w.heap.size + 1 + 1; omega) (.int .i64 r.hi.2.1)).setCell (p := ⟨w.heap.size + 1 + 1, 6, none⟩) (by show w.heap.size ≤ w.heap.size + 1 + 1; omega) (.string r.hi.2.2)).setCell (p := ⟨w.heap.size + 1 + 1, 7, none⟩) (by show w.heap.size ≤ w.heap.size + 1 + 1; omega) (.bool r.hs)).setCell (p := ⟨w.heap.size + 1 + 1, 8, none⟩) (by show w.heap.size ≤ w.heap.size + 1 + 1; omega) (.bool r.im))⟩
/-- narrowed, over any interval and any condition with a valid value. -/
theorem pNar_any (i : Itv) (c : Cnd) (hv : vldP c.v = true) (w : World) : Calls Try.prog 39 #[itvV i, cndS c] w fun e w' => e = .returned (itvV (narI i c)) ∧ Below w.heap.size w w' := by
  have hr : -1125899906842624 ≤ c.v.2.1 ∧ c.v.2.1 ≤ 1125899906842624 := by
    obtain ⟨_, _, ⟨k, n, s⟩⟩ := c
    unfold vldP Va.vldV at hv
    dsimp only at hv ⊢
    split at hv
    · simp at hv; omega
    · split at hv
      · simp at hv; omega
      · split at hv
        · simp at hv; omega
        · split at hv
          · simp at hv; omega
          · cases hv
  obtain ⟨⟨a1, a2, a3⟩, ls, ⟨b1, b2, b3⟩, hs, im⟩ := i
  obtain ⟨op, cl, ⟨k, n, t⟩⟩ := c
  unfold narI cndS
  dsimp only at *
  by_cases hk : k = a1
  · subst hk
    rw [if_neg (by simp)]
    by_cases h7 : op = 7
    · subst h7
      rw [if_pos rfl]
      exact nar_7 _ _ _ _ _ _ _ _ _ _ _ _ w
    · rw [if_neg h7]
      by_cases h11 : op = 11
      · subst h11
        rw [if_pos rfl]
        exact nar_11 _ _ _ _ _ _ _ _ _ _ _ _ hr w
      · rw [if_neg h11]
        by_cases h12 : op = 12
        · subst h12
          rw [if_pos rfl]
          exact nar_12 _ _ _ _ _ _ _ _ _ _ _ _ hr w
        · rw [if_neg h12]
          by_cases h9 : op = 9
          · subst h9
            rw [if_pos rfl]
            exact nar_9 _ _ _ _ _ _ _ _ _ _ _ _ hr w
          · rw [if_neg h9]
            exact nar_10 _ _ _ _ _ _ _ _ _ _ _ _ _ hr ⟨h7, h11, h12, h9⟩ w
  · rw [if_pos hk]
    exact nar_diff _ _ _ _ _ _ _ _ _ _ _ _ _ _ hk w
end Go.Proofs.Ythnmcpfmljibeaa
