import Derived.Test.YtdhemhmgenhmaaaGreatPI
import Derived.WalkKit
import Derived.WalkSpells
import Derived.WalkLawsBesides
import Derived.Deep.QuietTactic
import Derived.BigQuiet
import Derived.Handy
import Derived.Lib.Hide
set_option maxRecDepth 100000
set_option maxHeartbeats 25600000
set_option linter.unusedVariables false
set_option linter.unusedSimpArgs false
/-
  narrowed: an interval narrowed by a condition. Conditions: a value that is valid.
-/
namespace Go.Proofs.YtdhemhmgenhmaaaGreat
open Go.RowKit
def cndS (c : Cnd) : Value := .agg #[.int .i64 c.op, .int .i64 c.col, .int .i64 c.v.1, .int .i64 c.v.2.1, .string c.v.2.2]
theorem nar_diff (a1 a2 : Int) (a3 : ByteArray) (ls : Bool) (b1 b2 : Int) (b3 : ByteArray) (hs im : Bool) (op cl k n : Int) (t : ByteArray) (hk : k ≠ a1) (w : World) :
  Calls Tryz.prog 79 #[.agg #[.int .i64 a1, .int .i64 a2, .string a3, .bool ls, .int .i64 b1, .int .i64 b2, .string b3, .bool hs, .bool im], .agg #[.int .i64 op, .int .i64 cl, .int .i64 k, .int .i64 n, .string t]] w fun e w' => e = .returned (.agg #[.int .i64 a1, .int .i64 a2, .string a3, .bool ls, .int .i64 b1, .int .i64 b2, .string b3, .bool hs, .bool true]) ∧ Below w.heap.size w w' := by
 have hkb : (k == a1) = false := by rw [beq_eq_false_iff_ne]; exact hk
 go_enter Tryz.func79, Tryz.ntmps79
 go_wp2
 obtain ⟨HO0, HO1, HO2, HB⟩ := bx3 w 84 #[.int .i64 a1, .int .i64 a2, .string a3, .bool ls, .int .i64 b1, .int .i64 b2, .string b3, .bool hs, .bool true] 64 #[.int .i64 op, .int .i64 cl, .int .i64 k, .int .i64 n, .string t] 84 #[.int .i64 a1, .int .i64 a2, .string a3, .bool ls, .int .i64 b1, .int .i64 b2, .string b3, .bool hs, .bool true]
 (try simp only [Exit.inBlock, Exit.then]); refine bodyPost_ret_by (results_cell_row1 (by rfl) _ _ (w.heap.size + 1 + 1) _ (by rfl) (load_itv HO2.out)) ?_ ?_; (focus rfl); (try dsimp only)
 exact ⟨rfl, HB.out⟩
theorem nar_11 (a1 a2 : Int) (a3 : ByteArray) (ls : Bool) (b1 b2 : Int) (b3 : ByteArray) (hs im : Bool) (cl n : Int) (t : ByteArray) (hv : -1125899906842624 ≤ n ∧ n ≤ 1125899906842624) (w : World) :
  Calls Tryz.prog 79 #[.agg #[.int .i64 a1, .int .i64 a2, .string a3, .bool ls, .int .i64 b1, .int .i64 b2, .string b3, .bool hs, .bool im], .agg #[.int .i64 11, .int .i64 cl, .int .i64 a1, .int .i64 n, .string t]] w fun e w' => e = .returned (itvV (abvI ⟨(a1, a2, a3), ls, (b1, b2, b3), hs, im⟩ (beyI (a1, n, t) 1).1 (beyI (a1, n, t) 1).2)) ∧ Below w.heap.size w w' := by
 have HY := Lib.hid (fun W => pBey_any (a1, n, t) 1 (by dsimp only; omega) (by omega) W)
 have HC := Lib.hid (fun W => pAbv_any ⟨(a1, a2, a3), ls, (b1, b2, b3), hs, im⟩ (beyI (a1, n, t) 1).1 (beyI (a1, n, t) 1).2 W)
 generalize abvI ⟨(a1, a2, a3), ls, (b1, b2, b3), hs, im⟩ (beyI (a1, n, t) 1).1 (beyI (a1, n, t) 1).2 = r at *
 generalize beyI (a1, n, t) 1 = y at *
 obtain ⟨⟨y1, y2, y3⟩, ys⟩ := y
 unfold itvV bndV valV at *
 dsimp only at *
 obtain ⟨HO0, HO1, HO2, HO3, HB⟩ := bx4 w 84 #[.int .i64 a1, .int .i64 a2, .string a3, .bool ls, .int .i64 b1, .int .i64 b2, .string b3, .bool hs, .bool im] 64 #[.int .i64 11, .int .i64 cl, .int .i64 a1, .int .i64 n, .string t] 84 #[.int .i64 0, .int .i64 0, .string ⟨#[]⟩, .bool false, .int .i64 0, .int .i64 0, .string ⟨#[]⟩, .bool false, .bool false] 82 #[.int .i64 a1, .int .i64 n, .string t, .bool false]
 go_enter Tryz.func79, Tryz.ntmps79
 go_wp2_with fail
 with_reducible refine (HY.out _).mono ?_
 rintro e' w1 ⟨rfl, hb⟩
 replace HO0 := blw HO0 hb; replace HO1 := blw HO1 hb; replace HO2 := blw HO2 hb; replace HO3 := blw HO3 hb; replace HB := btr HB hb; clear hb
 obtain ⟨c0_0, c0_1, c0_2, c0_3, c0_4, c0_5, c0_6, c0_7, c0_8⟩ := oc9 HO0
 obtain ⟨c3_0, c3_1, c3_2, c3_3, m3_0, m3_1, m3_2, m3_3⟩ := om4 HO3
 go_wp2_with fail
 clear c0_0 c0_1 c0_2 c0_3 c0_4 c0_5 c0_6 c0_7 c0_8 c3_0 c3_1 c3_2 c3_3 m3_0 m3_1 m3_2 m3_3
 obtain ⟨HX, HY, HF⟩ := s4 (.int .i64 y1) (.int .i64 y2) (.string y3) (.bool ys) HO3 HB
 replace HO0 := HF _ _ _ HO0 (by omega); replace HO1 := HF _ _ _ HO1 (by omega); replace HO2 := HF _ _ _ HO2 (by omega); clear HF HO3 HB; have HO3 := HX; have HB := HY; clear HX HY
 with_reducible refine (HC.out _).mono ?_
 rintro e' w2 ⟨rfl, hb⟩
 replace HO0 := blw HO0 hb; replace HO1 := blw HO1 hb; replace HO2 := blw HO2 hb; replace HO3 := blw HO3 hb; replace HB := btr HB hb; clear hb
 obtain ⟨c2_0, c2_1, c2_2, c2_3, c2_4, c2_5, c2_6, c2_7, c2_8, m2_0, m2_1, m2_2, m2_3, m2_4, m2_5, m2_6, m2_7, m2_8⟩ := om9 HO2
 go_wp2
 clear c2_0 c2_1 c2_2 c2_3 c2_4 c2_5 c2_6 c2_7 c2_8 m2_0 m2_1 m2_2 m2_3 m2_4 m2_5 m2_6 m2_7 m2_8
 obtain ⟨HX, HY, HF⟩ := s9 (.int .i64 r.lo.1) (.int .i64 r.lo.2.1) (.string r.lo.2.2) (.bool r.ls) (.int .i64 r.hi.1) (.int .i64 r.hi.2.1) (.string r.hi.2.2) (.bool r.hs) (.bool r.im) HO2 HB
 replace HO0 := HF _ _ _ HO0 (by omega); replace HO1 := HF _ _ _ HO1 (by omega); replace HO3 := HF _ _ _ HO3 (by omega); clear HF HO2 HB; have HO2 := HX; have HB := HY; clear HX HY
 (try simp only [Exit.inBlock, Exit.then]); refine bodyPost_ret_by (results_cell_row1 (by rfl) _ _ (w.heap.size + 1 + 1) _ (by rfl) (load_itv HO2.out)) ?_ ?_; (focus rfl); (try dsimp only)
 exact ⟨rfl, HB.out⟩
theorem nar_12 (a1 a2 : Int) (a3 : ByteArray) (ls : Bool) (b1 b2 : Int) (b3 : ByteArray) (hs im : Bool) (cl n : Int) (t : ByteArray) (hv : -1125899906842624 ≤ n ∧ n ≤ 1125899906842624) (w : World) :
  Calls Tryz.prog 79 #[.agg #[.int .i64 a1, .int .i64 a2, .string a3, .bool ls, .int .i64 b1, .int .i64 b2, .string b3, .bool hs, .bool im], .agg #[.int .i64 12, .int .i64 cl, .int .i64 a1, .int .i64 n, .string t]] w fun e w' => e = .returned (itvV (abvI ⟨(a1, a2, a3), ls, (b1, b2, b3), hs, im⟩ (a1, n, t) false)) ∧ Below w.heap.size w w' := by
 have HC := Lib.hid (fun W => pAbv_any ⟨(a1, a2, a3), ls, (b1, b2, b3), hs, im⟩ (a1, n, t) false W)
 generalize abvI ⟨(a1, a2, a3), ls, (b1, b2, b3), hs, im⟩ (a1, n, t) false = r at *
 unfold itvV bndV at *
 dsimp only at *
 obtain ⟨HO0, HO1, HO2, HO3, HB⟩ := bx4 w 84 #[.int .i64 a1, .int .i64 a2, .string a3, .bool ls, .int .i64 b1, .int .i64 b2, .string b3, .bool hs, .bool im] 64 #[.int .i64 12, .int .i64 cl, .int .i64 a1, .int .i64 n, .string t] 84 #[.int .i64 0, .int .i64 0, .string ⟨#[]⟩, .bool false, .int .i64 0, .int .i64 0, .string ⟨#[]⟩, .bool false, .bool false] 82 #[.int .i64 a1, .int .i64 n, .string t, .bool false]
 go_enter Tryz.func79, Tryz.ntmps79
 go_wp2_with fail
 with_reducible refine (HC.out _).mono ?_
 rintro e' w1 ⟨rfl, hb⟩
 replace HO0 := blw HO0 hb; replace HO1 := blw HO1 hb; replace HO2 := blw HO2 hb; replace HO3 := blw HO3 hb; replace HB := btr HB hb; clear hb
 obtain ⟨c2_0, c2_1, c2_2, c2_3, c2_4, c2_5, c2_6, c2_7, c2_8, m2_0, m2_1, m2_2, m2_3, m2_4, m2_5, m2_6, m2_7, m2_8⟩ := om9 HO2
 go_wp2
 clear c2_0 c2_1 c2_2 c2_3 c2_4 c2_5 c2_6 c2_7 c2_8 m2_0 m2_1 m2_2 m2_3 m2_4 m2_5 m2_6 m2_7 m2_8
 obtain ⟨HX, HY, HF⟩ := s9 (.int .i64 r.lo.1) (.int .i64 r.lo.2.1) (.string r.lo.2.2) (.bool r.ls) (.int .i64 r.hi.1) (.int .i64 r.hi.2.1) (.string r.hi.2.2) (.bool r.hs) (.bool r.im) HO2 HB
 replace HO0 := HF _ _ _ HO0 (by omega); replace HO1 := HF _ _ _ HO1 (by omega); replace HO3 := HF _ _ _ HO3 (by omega); clear HF HO2 HB; have HO2 := HX; have HB := HY; clear HX HY
 (try simp only [Exit.inBlock, Exit.then]); refine bodyPost_ret_by (results_cell_row1 (by rfl) _ _ (w.heap.size + 1 + 1) _ (by rfl) (load_itv HO2.out)) ?_ ?_; (focus rfl); (try dsimp only)
 exact ⟨rfl, HB.out⟩
theorem nar_9 (a1 a2 : Int) (a3 : ByteArray) (ls : Bool) (b1 b2 : Int) (b3 : ByteArray) (hs im : Bool) (cl n : Int) (t : ByteArray) (hv : -1125899906842624 ≤ n ∧ n ≤ 1125899906842624) (w : World) :
  Calls Tryz.prog 79 #[.agg #[.int .i64 a1, .int .i64 a2, .string a3, .bool ls, .int .i64 b1, .int .i64 b2, .string b3, .bool hs, .bool im], .agg #[.int .i64 9, .int .i64 cl, .int .i64 a1, .int .i64 n, .string t]] w fun e w' => e = .returned (itvV (blwI ⟨(a1, a2, a3), ls, (b1, b2, b3), hs, im⟩ (beyI (a1, n, t) (-1)).1 (beyI (a1, n, t) (-1)).2)) ∧ Below w.heap.size w w' := by
 have HY := Lib.hid (fun W => pBey_any (a1, n, t) (-1) (by dsimp only; omega) (by omega) W)
 have HC := Lib.hid (fun W => pBlw_any ⟨(a1, a2, a3), ls, (b1, b2, b3), hs, im⟩ (beyI (a1, n, t) (-1)).1 (beyI (a1, n, t) (-1)).2 W)
 generalize blwI ⟨(a1, a2, a3), ls, (b1, b2, b3), hs, im⟩ (beyI (a1, n, t) (-1)).1 (beyI (a1, n, t) (-1)).2 = r at *
 generalize beyI (a1, n, t) (-1) = y at *
 obtain ⟨⟨y1, y2, y3⟩, ys⟩ := y
 unfold itvV bndV valV at *
 dsimp only at *
 obtain ⟨HO0, HO1, HO2, HO3, HB⟩ := bx4 w 84 #[.int .i64 a1, .int .i64 a2, .string a3, .bool ls, .int .i64 b1, .int .i64 b2, .string b3, .bool hs, .bool im] 64 #[.int .i64 9, .int .i64 cl, .int .i64 a1, .int .i64 n, .string t] 84 #[.int .i64 0, .int .i64 0, .string ⟨#[]⟩, .bool false, .int .i64 0, .int .i64 0, .string ⟨#[]⟩, .bool false, .bool false] 82 #[.int .i64 a1, .int .i64 n, .string t, .bool false]
 go_enter Tryz.func79, Tryz.ntmps79
 go_wp2_with fail
 with_reducible refine (HY.out _).mono ?_
 rintro e' w1 ⟨rfl, hb⟩
 replace HO0 := blw HO0 hb; replace HO1 := blw HO1 hb; replace HO2 := blw HO2 hb; replace HO3 := blw HO3 hb; replace HB := btr HB hb; clear hb
 obtain ⟨c0_0, c0_1, c0_2, c0_3, c0_4, c0_5, c0_6, c0_7, c0_8⟩ := oc9 HO0
 obtain ⟨c3_0, c3_1, c3_2, c3_3, m3_0, m3_1, m3_2, m3_3⟩ := om4 HO3
 go_wp2_with fail
 clear c0_0 c0_1 c0_2 c0_3 c0_4 c0_5 c0_6 c0_7 c0_8 c3_0 c3_1 c3_2 c3_3 m3_0 m3_1 m3_2 m3_3
 obtain ⟨HX, HY, HF⟩ := s4 (.int .i64 y1) (.int .i64 y2) (.string y3) (.bool ys) HO3 HB
 replace HO0 := HF _ _ _ HO0 (by omega); replace HO1 := HF _ _ _ HO1 (by omega); replace HO2 := HF _ _ _ HO2 (by omega); clear HF HO3 HB; have HO3 := HX; have HB := HY; clear HX HY
 with_reducible refine (HC.out _).mono ?_
 rintro e' w2 ⟨rfl, hb⟩
 replace HO0 := blw HO0 hb; replace HO1 := blw HO1 hb; replace HO2 := blw HO2 hb; replace HO3 := blw HO3 hb; replace HB := btr HB hb; clear hb
 obtain ⟨c2_0, c2_1, c2_2, c2_3, c2_4, c2_5, c2_6, c2_7, c2_8, m2_0, m2_1, m2_2, m2_3, m2_4, m2_5, m2_6, m2_7, m2_8⟩ := om9 HO2
 go_wp2
 clear c2_0 c2_1 c2_2 c2_3 c2_4 c2_5 c2_6 c2_7 c2_8 m2_0 m2_1 m2_2 m2_3 m2_4 m2_5 m2_6 m2_7 m2_8
 obtain ⟨HX, HY, HF⟩ := s9 (.int .i64 r.lo.1) (.int .i64 r.lo.2.1) (.string r.lo.2.2) (.bool r.ls) (.int .i64 r.hi.1) (.int .i64 r.hi.2.1) (.string r.hi.2.2) (.bool r.hs) (.bool r.im) HO2 HB
 replace HO0 := HF _ _ _ HO0 (by omega); replace HO1 := HF _ _ _ HO1 (by omega); replace HO3 := HF _ _ _ HO3 (by omega); clear HF HO2 HB; have HO2 := HX; have HB := HY; clear HX HY
 (try simp only [Exit.inBlock, Exit.then]); refine bodyPost_ret_by (results_cell_row1 (by rfl) _ _ (w.heap.size + 1 + 1) _ (by rfl) (load_itv HO2.out)) ?_ ?_; (focus rfl); (try dsimp only)
 exact ⟨rfl, HB.out⟩
theorem nar_10 (a1 a2 : Int) (a3 : ByteArray) (ls : Bool) (b1 b2 : Int) (b3 : ByteArray) (hs im : Bool) (op cl n : Int) (t : ByteArray) (hv : -1125899906842624 ≤ n ∧ n ≤ 1125899906842624) (hop : op ≠ 7 ∧ op ≠ 11 ∧ op ≠ 12 ∧ op ≠ 9) (w : World) :
  Calls Tryz.prog 79 #[.agg #[.int .i64 a1, .int .i64 a2, .string a3, .bool ls, .int .i64 b1, .int .i64 b2, .string b3, .bool hs, .bool im], .agg #[.int .i64 op, .int .i64 cl, .int .i64 a1, .int .i64 n, .string t]] w fun e w' => e = .returned (itvV (blwI ⟨(a1, a2, a3), ls, (b1, b2, b3), hs, im⟩ (a1, n, t) false)) ∧ Below w.heap.size w w' := by
 have HC := Lib.hid (fun W => pBlw_any ⟨(a1, a2, a3), ls, (b1, b2, b3), hs, im⟩ (a1, n, t) false W)
 generalize blwI ⟨(a1, a2, a3), ls, (b1, b2, b3), hs, im⟩ (a1, n, t) false = r at *
 unfold itvV bndV at *
 dsimp only at *
 have q7 : (op == 7) = false := by rw [beq_eq_false_iff_ne]; omega
 have q11 : (op == 11) = false := by rw [beq_eq_false_iff_ne]; omega
 have q12 : (op == 12) = false := by rw [beq_eq_false_iff_ne]; omega
 have q9 : (op == 9) = false := by rw [beq_eq_false_iff_ne]; omega
 obtain ⟨HO0, HO1, HO2, HO3, HB⟩ := bx4 w 84 #[.int .i64 a1, .int .i64 a2, .string a3, .bool ls, .int .i64 b1, .int .i64 b2, .string b3, .bool hs, .bool im] 64 #[.int .i64 op, .int .i64 cl, .int .i64 a1, .int .i64 n, .string t] 84 #[.int .i64 0, .int .i64 0, .string ⟨#[]⟩, .bool false, .int .i64 0, .int .i64 0, .string ⟨#[]⟩, .bool false, .bool false] 82 #[.int .i64 a1, .int .i64 n, .string t, .bool false]
 go_enter Tryz.func79, Tryz.ntmps79
 go_wp2_with fail
 with_reducible refine (HC.out _).mono ?_
 rintro e' w1 ⟨rfl, hb⟩
 replace HO0 := blw HO0 hb; replace HO1 := blw HO1 hb; replace HO2 := blw HO2 hb; replace HO3 := blw HO3 hb; replace HB := btr HB hb; clear hb
 obtain ⟨c2_0, c2_1, c2_2, c2_3, c2_4, c2_5, c2_6, c2_7, c2_8, m2_0, m2_1, m2_2, m2_3, m2_4, m2_5, m2_6, m2_7, m2_8⟩ := om9 HO2
 go_wp2
 clear c2_0 c2_1 c2_2 c2_3 c2_4 c2_5 c2_6 c2_7 c2_8 m2_0 m2_1 m2_2 m2_3 m2_4 m2_5 m2_6 m2_7 m2_8
 obtain ⟨HX, HY, HF⟩ := s9 (.int .i64 r.lo.1) (.int .i64 r.lo.2.1) (.string r.lo.2.2) (.bool r.ls) (.int .i64 r.hi.1) (.int .i64 r.hi.2.1) (.string r.hi.2.2) (.bool r.hs) (.bool r.im) HO2 HB
 replace HO0 := HF _ _ _ HO0 (by omega); replace HO1 := HF _ _ _ HO1 (by omega); replace HO3 := HF _ _ _ HO3 (by omega); clear HF HO2 HB; have HO2 := HX; have HB := HY; clear HX HY
 (try simp only [Exit.inBlock, Exit.then]); refine bodyPost_ret_by (results_cell_row1 (by rfl) _ _ (w.heap.size + 1 + 1) _ (by rfl) (load_itv HO2.out)) ?_ ?_; (focus rfl); (try dsimp only)
 exact ⟨rfl, HB.out⟩
theorem nar_7 (a1 a2 : Int) (a3 : ByteArray) (ls : Bool) (b1 b2 : Int) (b3 : ByteArray) (hs im : Bool) (cl n : Int) (t : ByteArray) (w : World) :
  Calls Tryz.prog 79 #[.agg #[.int .i64 a1, .int .i64 a2, .string a3, .bool ls, .int .i64 b1, .int .i64 b2, .string b3, .bool hs, .bool im], .agg #[.int .i64 7, .int .i64 cl, .int .i64 a1, .int .i64 n, .string t]] w fun e w' => e = .returned (itvV (blwI (abvI ⟨(a1, a2, a3), ls, (b1, b2, b3), hs, im⟩ (a1, n, t) false) (a1, n, t) false)) ∧ Below w.heap.size w w' := by
 have HC := Lib.hid (fun W => pAbv_any ⟨(a1, a2, a3), ls, (b1, b2, b3), hs, im⟩ (a1, n, t) false W)
 generalize abvI ⟨(a1, a2, a3), ls, (b1, b2, b3), hs, im⟩ (a1, n, t) false = m at *
 have HC2 := Lib.hid (fun W => pBlw_any m (a1, n, t) false W)
 generalize blwI m (a1, n, t) false = r at *
 unfold itvV bndV at *
 dsimp only at *
 obtain ⟨HO0, HO1, HO2, HO3, HB⟩ := bx4 w 84 #[.int .i64 a1, .int .i64 a2, .string a3, .bool ls, .int .i64 b1, .int .i64 b2, .string b3, .bool hs, .bool im] 64 #[.int .i64 7, .int .i64 cl, .int .i64 a1, .int .i64 n, .string t] 84 #[.int .i64 0, .int .i64 0, .string ⟨#[]⟩, .bool false, .int .i64 0, .int .i64 0, .string ⟨#[]⟩, .bool false, .bool false] 82 #[.int .i64 a1, .int .i64 n, .string t, .bool false]
 go_enter Tryz.func79, Tryz.ntmps79
 go_wp2_with fail
 have HD0 := drw HO0; have HD2 := drw HO2; have HD3 := drw HO3; have HDB := drb HB
 obtain ⟨d0, d1, d2, d3⟩ := oc4 HD3
 obtain ⟨s0, s1, s2, s3, s4, s5, s6, s7, s8⟩ := oc9 HD0
 go_region_law (first
  | (go_simp; go_at_call 110; with_reducible refine (HC.out _).mono ?_; rintro e w1 ⟨rfl, hb1⟩; have H2 := blw HD2 hb1; have H3 := blw HD3 hb1; have H4 := btr HDB hb1; obtain ⟨u0, u1, u2, u3⟩ := oc4 H3; clear hb1)
  | (go_simp; go_at_call 111; with_reducible refine (HC2.out _).mono ?_; rintro e w2 ⟨rfl, hb2⟩; have K2 := blw H2 hb2; have K4 := btr H4 hb2; obtain ⟨v0, v1, v2, v3, v4, v5, v6, v7, v8, m0, m1, m2, m3, m4, m5, m6, m7, m8⟩ := om9 K2; clear hb2))
 all_goals
  clear HO0 HO1 HO2 HO3 HB HD0 HD2 HD3 HDB H2 H3 H4 s0 s1 s2 s3 s4 s5 s6 s7 s8 d0 d1 d2 d3 u0 u1 u2 u3
  go_wp2
  obtain ⟨hx, hy, -⟩ := s9 (.int .i64 r.lo.1) (.int .i64 r.lo.2.1) (.string r.lo.2.2) (.bool r.ls) (.int .i64 r.hi.1) (.int .i64 r.hi.2.1) (.string r.hi.2.2) (.bool r.hs) (.bool r.im) K2 K4
  (try simp only [Exit.inBlock, Exit.then]); refine bodyPost_ret_by (results_cell_row1 (by rfl) _ _ (w.heap.size + 1 + 1) _ (by rfl) (load_itv hx.out)) ?_ ?_; (focus rfl); (try dsimp only)
  exact ⟨rfl, hy.out⟩
theorem pNar_any (i : Itv) (c : Cnd) (hv : vldP c.v = true) (w : World) : Calls Tryz.prog 79 #[itvV i, cndS c] w fun e w' => e = .returned (itvV (narI i c)) ∧ Below w.heap.size w w' := by
 have hr : -1125899906842624 ≤ c.v.2.1 ∧ c.v.2.1 ≤ 1125899906842624 := by
  obtain ⟨_, _, ⟨k, n, s⟩⟩ := c
  unfold vldP Va.vldV at hv
  dsimp only at hv ⊢
  split at hv
  ·simp at hv; omega
  ·split at hv
   ·simp at hv; omega
   ·split at hv
    ·simp at hv; omega
    ·split at hv
     ·simp at hv; omega
     ·cases hv
 obtain ⟨⟨a1, a2, a3⟩, ls, ⟨b1, b2, b3⟩, hs, im⟩ := i
 obtain ⟨op, cl, ⟨k, n, t⟩⟩ := c
 unfold narI cndS
 dsimp only at *
 by_cases hk : k = a1
 ·subst hk
  rw [if_neg (by simp)]
  by_cases h7 : op = 7
  ·subst h7
   rw [if_pos rfl]
   exact nar_7 _ _ _ _ _ _ _ _ _ _ _ _ w
  ·rw [if_neg h7]
   by_cases h11 : op = 11
   ·subst h11
    rw [if_pos rfl]
    exact nar_11 _ _ _ _ _ _ _ _ _ _ _ _ hr w
   ·rw [if_neg h11]
    by_cases h12 : op = 12
    ·subst h12
     rw [if_pos rfl]
     exact nar_12 _ _ _ _ _ _ _ _ _ _ _ _ hr w
    ·rw [if_neg h12]
     by_cases h9 : op = 9
     ·subst h9
      rw [if_pos rfl]
      exact nar_9 _ _ _ _ _ _ _ _ _ _ _ _ hr w
     ·rw [if_neg h9]
      exact nar_10 _ _ _ _ _ _ _ _ _ _ _ _ _ hr ⟨h7, h11, h12, h9⟩ w
 ·rw [if_pos hk]
  exact nar_diff _ _ _ _ _ _ _ _ _ _ _ _ _ _ hk w
end Go.Proofs.YtdhemhmgenhmaaaGreat
