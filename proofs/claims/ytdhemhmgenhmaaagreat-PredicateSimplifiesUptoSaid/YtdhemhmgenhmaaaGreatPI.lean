import Derived.Test.YtdhemhmgenhmaaaGreatPA
import Derived.Test.YtdhemhmgenhmaaaGreatME
import Derived.Test.YtdhemhmgenhmaaaGreatTA
import Derived.WalkKit
import Derived.WalkSpells
import Derived.WalkLawsBesides
import Derived.Deep.QuietTactic
import Derived.BigQuiet
import Derived.Handy
import Derived.Lib.Hide
set_option maxRecDepth 100000
set_option maxHeartbeats 25600000
set_option linter.unusedVariables false
set_option linter.unusedSimpArgs false
/-
  Intervals of values, as predicate makes and narrows them. Conditions: numbers that are values.
-/
namespace Go.Proofs.YtdhemhmgenhmaaaGreat
open Go.RowKit
theorem load_itv {w : World} {g : Nat} {a b c d e f h i j : Value} (ho : Own w g 84 #[a, b, c, d, e, f, h, i, j]) : (loadVar 84 ⟨g, 0, none⟩).run Tryz.prog w = .ok (.agg #[a, b, c, d, e, f, h, i, j]) w :=
 run_loadVar_row w g 84 84 #[a, b, c, d, e, f, h, i, j] (0, 0) _ ho Tryz.underlying84 rfl (by kernel_rfl)
theorem load_bnd {w : World} {g : Nat} {a b c d : Value} (ho : Own w g 82 #[a, b, c, d]) : (loadVar 82 ⟨g, 0, none⟩).run Tryz.prog w = .ok (.agg #[a, b, c, d]) w :=
 run_loadVar_row w g 82 82 #[a, b, c, d] (0, 0) _ ho Tryz.underlying82 rfl (by kernel_rfl)
def bndV (b : Vl) (s : Bool) : Value := .agg #[.int .i64 b.1, .int .i64 b.2.1, .string b.2.2, .bool s]
theorem pBtw_any (a b : Vl) (w : World) : Calls Tryz.prog 109 #[valV a, valV b] w fun e w' => e = .returned (itvV (btw a b)) ∧ Below w.heap.size w w' := by
 unfold valV itvV btw
 dsimp only
 go_enter Tryz.func109, Tryz.ntmps109
 go_wp2
 obtain ⟨HO0, HO1, HO2, HB⟩ := bx3 w 23 #[.int .i64 a.1, .int .i64 a.2.1, .string a.2.2] 23 #[.int .i64 b.1, .int .i64 b.2.1, .string b.2.2] 84 #[.int .i64 a.1, .int .i64 a.2.1, .string a.2.2, .bool false, .int .i64 b.1, .int .i64 b.2.1, .string b.2.2, .bool false, .bool false]
 (try simp only [Exit.inBlock, Exit.then]); refine bodyPost_ret_by (results_cell_row1 (by rfl) _ _ (w.heap.size + 1 + 1) _ (by rfl) (load_itv HO2.out)) ?_ ?_; (focus rfl); (try dsimp only)
 exact ⟨rfl, HB.out⟩
theorem pItI_any (a b : Int) (w : World) : Calls Tryz.prog 78 #[.int .i64 a, .int .i64 b] w fun e w' => e = .returned (itvV (itI a b)) ∧ Below w.heap.size w w' := by
 have HIa := Lib.hid (fun W => eInt a W)
 have HIb := Lib.hid (fun W => eInt b W)
 have HBT := Lib.hid (fun W => pBtw_any (intP a) (intP b) W)
 unfold itI
 generalize intP a = x at *
 generalize intP b = y at *
 unfold valV itvV btw at *
 dsimp only at *
 obtain ⟨HO0, HB⟩ := bx1 w 84 #[.int .i64 0, .int .i64 0, .string ⟨#[]⟩, .bool false, .int .i64 0, .int .i64 0, .string ⟨#[]⟩, .bool false, .bool false]
 go_enter Tryz.func78, Tryz.ntmps78
 go_wp2_with fail
 with_reducible refine (HIa.out _).mono ?_
 rintro e' w1 ⟨rfl, hb⟩
 replace HO0 := blw HO0 hb; replace HB := btr HB hb; clear hb
 go_wp2_with fail
 with_reducible refine (HIb.out _).mono ?_
 rintro e' w2 ⟨rfl, hb⟩
 replace HO0 := blw HO0 hb; replace HB := btr HB hb; clear hb
 go_wp2_with fail
 with_reducible refine (HBT.out _).mono ?_
 rintro e' w3 ⟨rfl, hb⟩
 replace HO0 := blw HO0 hb; replace HB := btr HB hb; clear hb
 obtain ⟨c0_0, c0_1, c0_2, c0_3, c0_4, c0_5, c0_6, c0_7, c0_8, m0_0, m0_1, m0_2, m0_3, m0_4, m0_5, m0_6, m0_7, m0_8⟩ := om9 HO0
 go_wp2
 clear c0_0 c0_1 c0_2 c0_3 c0_4 c0_5 c0_6 c0_7 c0_8 m0_0 m0_1 m0_2 m0_3 m0_4 m0_5 m0_6 m0_7 m0_8
 obtain ⟨HX, HY, HF⟩ := s9 (.int .i64 x.1) (.int .i64 x.2.1) (.string x.2.2) (.bool false) (.int .i64 y.1) (.int .i64 y.2.1) (.string y.2.2) (.bool false) (.bool false) HO0 HB
 clear HF HO0 HB; have HO0 := HX; have HB := HY; clear HX HY
 (try simp only [Exit.inBlock, Exit.then]); refine bodyPost_ret_by (results_cell_row1 (by rfl) _ _ (w.heap.size) _ (by rfl) (load_itv HO0.out)) ?_ ?_; (focus rfl); (try dsimp only)
 exact ⟨rfl, HB.out⟩
theorem pAll_any (k : Int) (w : World) : Calls Tryz.prog 88 #[.int .i64 k] w fun e w' => e = .returned (itvV (allI k)) ∧ Below w.heap.size w w' := by
 unfold allI
 by_cases h1 : k = 1
 ·subst h1
  rw [if_pos rfl]
  have HC := Lib.hid (fun W => pItI_any (-1125899906842624) 1125899906842624 W)
  generalize itI (-1125899906842624) 1125899906842624 = r at *
  unfold itvV at *
  obtain ⟨HO0, HB⟩ := bx1 w 84 #[.int .i64 0, .int .i64 0, .string ⟨#[]⟩, .bool false, .int .i64 0, .int .i64 0, .string ⟨#[]⟩, .bool false, .bool false]
  go_enter Tryz.func88, Tryz.ntmps88
  go_wp2_with fail
  with_reducible refine (HC.out _).mono ?_
  rintro e' w1 ⟨rfl, hb⟩
  replace HO0 := blw HO0 hb; replace HB := btr HB hb; clear hb
  obtain ⟨c0_0, c0_1, c0_2, c0_3, c0_4, c0_5, c0_6, c0_7, c0_8, m0_0, m0_1, m0_2, m0_3, m0_4, m0_5, m0_6, m0_7, m0_8⟩ := om9 HO0
  go_wp2
  clear c0_0 c0_1 c0_2 c0_3 c0_4 c0_5 c0_6 c0_7 c0_8 m0_0 m0_1 m0_2 m0_3 m0_4 m0_5 m0_6 m0_7 m0_8
  obtain ⟨HX, HY, HF⟩ := s9 (.int .i64 r.lo.1) (.int .i64 r.lo.2.1) (.string r.lo.2.2) (.bool r.ls) (.int .i64 r.hi.1) (.int .i64 r.hi.2.1) (.string r.hi.2.2) (.bool r.hs) (.bool r.im) HO0 HB
  clear HF HO0 HB; have HO0 := HX; have HB := HY; clear HX HY
  (try simp only [Exit.inBlock, Exit.then]); refine bodyPost_ret_by (results_cell_row1 (by rfl) _ _ (w.heap.size) _ (by rfl) (load_itv HO0.out)) ?_ ?_; (focus rfl); (try dsimp only)
  exact ⟨rfl, HB.out⟩
 ·rw [if_neg h1]
  have h1b : (k == 1) = false := by rw [beq_eq_false_iff_ne]; exact h1
  by_cases h3 : k = 3
  ·subst h3
   rw [if_pos rfl]
   have HF := Lib.hid (fun W => eBool false W)
   have HT := Lib.hid (fun W => eBool true W)
   have HC := Lib.hid (fun W => pBtw_any (booP false) (booP true) W)
   generalize booP false = x at *
   generalize booP true = y at *
   generalize btw x y = r at *
   unfold valV itvV at *
   clear h1 h1b
   obtain ⟨HO0, HB⟩ := bx1 w 84 #[.int .i64 0, .int .i64 0, .string ⟨#[]⟩, .bool false, .int .i64 0, .int .i64 0, .string ⟨#[]⟩, .bool false, .bool false]
   go_enter Tryz.func88, Tryz.ntmps88
   go_wp2_with fail
   with_reducible refine (HF.out _).mono ?_
   rintro e' w1 ⟨rfl, hb⟩
   replace HO0 := blw HO0 hb; replace HB := btr HB hb; clear hb
   go_wp2_with fail
   with_reducible refine (HT.out _).mono ?_
   rintro e' w2 ⟨rfl, hb⟩
   replace HO0 := blw HO0 hb; replace HB := btr HB hb; clear hb
   go_wp2_with fail
   with_reducible refine (HC.out _).mono ?_
   rintro e' w3 ⟨rfl, hb⟩
   replace HO0 := blw HO0 hb; replace HB := btr HB hb; clear hb
   obtain ⟨c0_0, c0_1, c0_2, c0_3, c0_4, c0_5, c0_6, c0_7, c0_8, m0_0, m0_1, m0_2, m0_3, m0_4, m0_5, m0_6, m0_7, m0_8⟩ := om9 HO0
   go_wp2
   clear c0_0 c0_1 c0_2 c0_3 c0_4 c0_5 c0_6 c0_7 c0_8 m0_0 m0_1 m0_2 m0_3 m0_4 m0_5 m0_6 m0_7 m0_8
   obtain ⟨HX, HY, HF⟩ := s9 (.int .i64 r.lo.1) (.int .i64 r.lo.2.1) (.string r.lo.2.2) (.bool r.ls) (.int .i64 r.hi.1) (.int .i64 r.hi.2.1) (.string r.hi.2.2) (.bool r.hs) (.bool r.im) HO0 HB
   clear HF HO0 HB; have HO0 := HX; have HB := HY; clear HX HY
   (try simp only [Exit.inBlock, Exit.then]); refine bodyPost_ret_by (results_cell_row1 (by rfl) _ _ (w.heap.size) _ (by rfl) (load_itv HO0.out)) ?_ ?_; (focus rfl); (try dsimp only)
   exact ⟨rfl, HB.out⟩
  ·rw [if_neg h3]
   have h3b : (k == 3) = false := by rw [beq_eq_false_iff_ne]; exact h3
   have HT := Lib.hid (fun W => eText ⟨#[]⟩ W)
   have HC := Lib.hid (fun W => pBtw_any (txtP ⟨#[]⟩) (2, 0, ⟨#[127]⟩) W)
   generalize txtP ⟨#[]⟩ = x at *
   generalize btw x (2, 0, ⟨#[127]⟩) = r at *
   unfold valV itvV at *
   dsimp only at *
   clear h1 h3
   obtain ⟨HO0, HB⟩ := bx1 w 84 #[.int .i64 0, .int .i64 0, .string ⟨#[]⟩, .bool false, .int .i64 0, .int .i64 0, .string ⟨#[]⟩, .bool false, .bool false]
   go_enter Tryz.func88, Tryz.ntmps88
   go_wp2_with fail
   with_reducible refine (HT.out _).mono ?_
   rintro e' w1 ⟨rfl, hb⟩
   replace HO0 := blw HO0 hb; replace HB := btr HB hb; clear hb
   go_wp2_with fail
   with_reducible refine (HC.out _).mono ?_
   rintro e' w2 ⟨rfl, hb⟩
   replace HO0 := blw HO0 hb; replace HB := btr HB hb; clear hb
   obtain ⟨c0_0, c0_1, c0_2, c0_3, c0_4, c0_5, c0_6, c0_7, c0_8, m0_0, m0_1, m0_2, m0_3, m0_4, m0_5, m0_6, m0_7, m0_8⟩ := om9 HO0
   go_wp2
   clear c0_0 c0_1 c0_2 c0_3 c0_4 c0_5 c0_6 c0_7 c0_8 m0_0 m0_1 m0_2 m0_3 m0_4 m0_5 m0_6 m0_7 m0_8
   obtain ⟨HX, HY, HF⟩ := s9 (.int .i64 r.lo.1) (.int .i64 r.lo.2.1) (.string r.lo.2.2) (.bool r.ls) (.int .i64 r.hi.1) (.int .i64 r.hi.2.1) (.string r.hi.2.2) (.bool r.hs) (.bool r.im) HO0 HB
   clear HF HO0 HB; have HO0 := HX; have HB := HY; clear HX HY
   (try simp only [Exit.inBlock, Exit.then]); refine bodyPost_ret_by (results_cell_row1 (by rfl) _ _ (w.heap.size) _ (by rfl) (load_itv HO0.out)) ?_ ?_; (focus rfl); (try dsimp only)
   exact ⟨rfl, HB.out⟩
theorem pEmp_any (i : Itv) (w : World) : Calls Tryz.prog 80 #[itvV i] w fun e w' => e = .returned (.bool (empI i)) ∧ Below w.heap.size w w' := by
 have HC := Lib.hid (fun W => pCmp_any i.lo i.hi W)
 unfold empI
 generalize cmpP i.lo i.hi = c at *
 obtain ⟨⟨a1, a2, a3⟩, ls, ⟨b1, b2, b3⟩, hs, im⟩ := i
 unfold valV itvV at *
 dsimp only at *
 obtain ⟨HO0, HB⟩ := bx1 w 84 #[.int .i64 a1, .int .i64 a2, .string a3, .bool ls, .int .i64 b1, .int .i64 b2, .string b3, .bool hs, .bool im]
 obtain ⟨c0_0, c0_1, c0_2, c0_3, c0_4, c0_5, c0_6, c0_7, c0_8⟩ := oc9 HO0
 go_enter Tryz.func80, Tryz.ntmps80
 go_wp2_with fail
 with_reducible refine (HC.out _).mono ?_
 rintro e' w1 ⟨rfl, hb⟩
 clear c0_0 c0_1 c0_2 c0_3 c0_4 c0_5 c0_6 c0_7 c0_8
 replace HO0 := blw HO0 hb; replace HB := btr HB hb; clear hb
 obtain ⟨-, -, -, c0_3, -, -, -, c0_7, c0_8⟩ := oc9 HO0
 rcases Int.lt_trichotomy 0 c with h | h | h
 ·have hd : decide (0 < c) = true := decide_eq_true h
  cases im
  all_goals
   go_wp2
   go_ret
   exact ⟨by simp [hd], HB.out⟩
 ·subst h
  cases im
  ·cases ls
   ·cases hs
    all_goals
     go_wp2
     go_ret
     exact ⟨by simp, HB.out⟩
   ·go_wp2
    go_ret
    exact ⟨by simp, HB.out⟩
  ·go_wp2
   go_ret
   exact ⟨by simp, HB.out⟩
 ·have hd : ¬ (0 < c) := by omega
  have hd2 : ¬ (c = 0) := by omega
  have hd3 : (c == 0) = false := by rw [beq_eq_false_iff_ne]; exact hd2
  cases im
  all_goals
   go_wp2
   go_ret
   exact ⟨by simp [hd, hd2], HB.out⟩
theorem pAbv_any (i : Itv) (b : Vl) (s : Bool) (w : World) : Calls Tryz.prog 110 #[itvV i, bndV b s] w fun e w' => e = .returned (itvV (abvI i b s)) ∧ Below w.heap.size w w' := by
 have HC := Lib.hid (fun W => pCmp_any b i.lo W)
 unfold abvI
 generalize cmpP b i.lo = c at *
 obtain ⟨⟨a1, a2, a3⟩, ls, ⟨b1, b2, b3⟩, hs, im⟩ := i
 obtain ⟨x1, x2, x3⟩ := b
 unfold valV at *
 unfold itvV bndV
 dsimp only at *
 by_cases hc : 0 < c ∨ c = 0 ∧ s = true
 ·rw [if_pos hc]
  rcases hc with hc | ⟨rfl, rfl⟩
  ·obtain ⟨HO0, HO1, HO2, HB⟩ := bx3 w 84 #[.int .i64 a1, .int .i64 a2, .string a3, .bool ls, .int .i64 b1, .int .i64 b2, .string b3, .bool hs, .bool im] 82 #[.int .i64 x1, .int .i64 x2, .string x3, .bool s] 84 #[.int .i64 0, .int .i64 0, .string ⟨#[]⟩, .bool false, .int .i64 0, .int .i64 0, .string ⟨#[]⟩, .bool false, .bool false]
   obtain ⟨c0_0, c0_1, c0_2, c0_3, c0_4, c0_5, c0_6, c0_7, c0_8⟩ := oc9 HO0
   obtain ⟨c1_0, c1_1, c1_2, c1_3⟩ := oc4 HO1
   go_enter Tryz.func110, Tryz.ntmps110
   go_wp2_with fail
   with_reducible refine (HC.out _).mono ?_
   rintro e' w1 ⟨rfl, hb⟩
   clear c0_0 c0_1 c0_2 c0_3 c0_4 c0_5 c0_6 c0_7 c0_8 c1_0 c1_1 c1_2 c1_3
   replace HO0 := blw HO0 hb; replace HO1 := blw HO1 hb; replace HO2 := blw HO2 hb; replace HB := btr HB hb; clear hb
   obtain ⟨c0_0, c0_1, c0_2, c0_3, c0_4, c0_5, c0_6, c0_7, c0_8, m0_0, m0_1, m0_2, m0_3, m0_4, m0_5, m0_6, m0_7, m0_8⟩ := om9 HO0
   obtain ⟨c1_0, c1_1, c1_2, c1_3⟩ := oc4 HO1
   obtain ⟨c2_0, c2_1, c2_2, c2_3, c2_4, c2_5, c2_6, c2_7, c2_8, m2_0, m2_1, m2_2, m2_3, m2_4, m2_5, m2_6, m2_7, m2_8⟩ := om9 HO2
   go_wp2
   clear c0_0 c0_1 c0_2 c0_3 c0_4 c0_5 c0_6 c0_7 c0_8 m0_0 m0_1 m0_2 m0_3 m0_4 m0_5 m0_6 m0_7 m0_8 c1_0 c1_1 c1_2 c1_3 c2_0 c2_1 c2_2 c2_3 c2_4 c2_5 c2_6 c2_7 c2_8 m2_0 m2_1 m2_2 m2_3 m2_4 m2_5 m2_6 m2_7 m2_8
   obtain ⟨HX, HY, HF⟩ := s94 (.int .i64 x1) (.int .i64 x2) (.string x3) (.bool s) HO0 HB
   replace HO1 := HF _ _ _ HO1 (by omega); replace HO2 := HF _ _ _ HO2 (by omega); clear HF HO0 HB; have HO0 := HX; have HB := HY; clear HX HY
   obtain ⟨HX, HY, HF⟩ := s9 (.int .i64 x1) (.int .i64 x2) (.string x3) (.bool s) (.int .i64 b1) (.int .i64 b2) (.string b3) (.bool hs) (.bool im) HO2 HB
   replace HO0 := HF _ _ _ HO0 (by omega); replace HO1 := HF _ _ _ HO1 (by omega); clear HF HO2 HB; have HO2 := HX; have HB := HY; clear HX HY
   (try simp only [Exit.inBlock, Exit.then]); refine bodyPost_ret_by (results_cell_row1 (by rfl) _ _ (w.heap.size + 1 + 1) _ (by rfl) (load_itv HO2.out)) ?_ ?_; (focus rfl); (try dsimp only)
   exact ⟨rfl, HB.out⟩
  ·obtain ⟨HO0, HO1, HO2, HB⟩ := bx3 w 84 #[.int .i64 a1, .int .i64 a2, .string a3, .bool ls, .int .i64 b1, .int .i64 b2, .string b3, .bool hs, .bool im] 82 #[.int .i64 x1, .int .i64 x2, .string x3, .bool true] 84 #[.int .i64 0, .int .i64 0, .string ⟨#[]⟩, .bool false, .int .i64 0, .int .i64 0, .string ⟨#[]⟩, .bool false, .bool false]
   obtain ⟨c0_0, c0_1, c0_2, c0_3, c0_4, c0_5, c0_6, c0_7, c0_8⟩ := oc9 HO0
   obtain ⟨c1_0, c1_1, c1_2, c1_3⟩ := oc4 HO1
   go_enter Tryz.func110, Tryz.ntmps110
   go_wp2_with fail
   with_reducible refine (HC.out _).mono ?_
   rintro e' w1 ⟨rfl, hb⟩
   clear c0_0 c0_1 c0_2 c0_3 c0_4 c0_5 c0_6 c0_7 c0_8 c1_0 c1_1 c1_2 c1_3
   replace HO0 := blw HO0 hb; replace HO1 := blw HO1 hb; replace HO2 := blw HO2 hb; replace HB := btr HB hb; clear hb
   obtain ⟨c0_0, c0_1, c0_2, c0_3, c0_4, c0_5, c0_6, c0_7, c0_8, m0_0, m0_1, m0_2, m0_3, m0_4, m0_5, m0_6, m0_7, m0_8⟩ := om9 HO0
   obtain ⟨c1_0, c1_1, c1_2, c1_3⟩ := oc4 HO1
   obtain ⟨c2_0, c2_1, c2_2, c2_3, c2_4, c2_5, c2_6, c2_7, c2_8, m2_0, m2_1, m2_2, m2_3, m2_4, m2_5, m2_6, m2_7, m2_8⟩ := om9 HO2
   go_wp2
   clear c0_0 c0_1 c0_2 c0_3 c0_4 c0_5 c0_6 c0_7 c0_8 m0_0 m0_1 m0_2 m0_3 m0_4 m0_5 m0_6 m0_7 m0_8 c1_0 c1_1 c1_2 c1_3 c2_0 c2_1 c2_2 c2_3 c2_4 c2_5 c2_6 c2_7 c2_8 m2_0 m2_1 m2_2 m2_3 m2_4 m2_5 m2_6 m2_7 m2_8
   obtain ⟨HX, HY, HF⟩ := s94 (.int .i64 x1) (.int .i64 x2) (.string x3) (.bool true) HO0 HB
   replace HO1 := HF _ _ _ HO1 (by omega); replace HO2 := HF _ _ _ HO2 (by omega); clear HF HO0 HB; have HO0 := HX; have HB := HY; clear HX HY
   obtain ⟨HX, HY, HF⟩ := s9 (.int .i64 x1) (.int .i64 x2) (.string x3) (.bool true) (.int .i64 b1) (.int .i64 b2) (.string b3) (.bool hs) (.bool im) HO2 HB
   replace HO0 := HF _ _ _ HO0 (by omega); replace HO1 := HF _ _ _ HO1 (by omega); clear HF HO2 HB; have HO2 := HX; have HB := HY; clear HX HY
   (try simp only [Exit.inBlock, Exit.then]); refine bodyPost_ret_by (results_cell_row1 (by rfl) _ _ (w.heap.size + 1 + 1) _ (by rfl) (load_itv HO2.out)) ?_ ?_; (focus rfl); (try dsimp only)
   exact ⟨rfl, HB.out⟩
 ·rw [if_neg hc]
  have h1 : ¬ (0 < c) := fun h => hc (.inl h)
  by_cases h0 : c = 0
  ·have hs0 : s = false := by cases s; rfl; exact absurd (.inr ⟨h0, rfl⟩) hc
   subst h0 hs0
   clear hc h1
   obtain ⟨HO0, HO1, HO2, HB⟩ := bx3 w 84 #[.int .i64 a1, .int .i64 a2, .string a3, .bool ls, .int .i64 b1, .int .i64 b2, .string b3, .bool hs, .bool im] 82 #[.int .i64 x1, .int .i64 x2, .string x3, .bool false] 84 #[.int .i64 0, .int .i64 0, .string ⟨#[]⟩, .bool false, .int .i64 0, .int .i64 0, .string ⟨#[]⟩, .bool false, .bool false]
   obtain ⟨c0_0, c0_1, c0_2, c0_3, c0_4, c0_5, c0_6, c0_7, c0_8⟩ := oc9 HO0
   obtain ⟨c1_0, c1_1, c1_2, c1_3⟩ := oc4 HO1
   go_enter Tryz.func110, Tryz.ntmps110
   go_wp2_with fail
   with_reducible refine (HC.out _).mono ?_
   rintro e' w1 ⟨rfl, hb⟩
   clear c0_0 c0_1 c0_2 c0_3 c0_4 c0_5 c0_6 c0_7 c0_8 c1_0 c1_1 c1_2 c1_3
   replace HO0 := blw HO0 hb; replace HO1 := blw HO1 hb; replace HO2 := blw HO2 hb; replace HB := btr HB hb; clear hb
   obtain ⟨c0_0, c0_1, c0_2, c0_3, c0_4, c0_5, c0_6, c0_7, c0_8, m0_0, m0_1, m0_2, m0_3, m0_4, m0_5, m0_6, m0_7, m0_8⟩ := om9 HO0
   obtain ⟨c1_0, c1_1, c1_2, c1_3⟩ := oc4 HO1
   obtain ⟨c2_0, c2_1, c2_2, c2_3, c2_4, c2_5, c2_6, c2_7, c2_8, m2_0, m2_1, m2_2, m2_3, m2_4, m2_5, m2_6, m2_7, m2_8⟩ := om9 HO2
   go_wp2
   clear c0_0 c0_1 c0_2 c0_3 c0_4 c0_5 c0_6 c0_7 c0_8 m0_0 m0_1 m0_2 m0_3 m0_4 m0_5 m0_6 m0_7 m0_8 c1_0 c1_1 c1_2 c1_3 c2_0 c2_1 c2_2 c2_3 c2_4 c2_5 c2_6 c2_7 c2_8 m2_0 m2_1 m2_2 m2_3 m2_4 m2_5 m2_6 m2_7 m2_8
   obtain ⟨HX, HY, HF⟩ := s9 (.int .i64 a1) (.int .i64 a2) (.string a3) (.bool ls) (.int .i64 b1) (.int .i64 b2) (.string b3) (.bool hs) (.bool im) HO2 HB
   replace HO0 := HF _ _ _ HO0 (by omega); replace HO1 := HF _ _ _ HO1 (by omega); clear HF HO2 HB; have HO2 := HX; have HB := HY; clear HX HY
   (try simp only [Exit.inBlock, Exit.then]); refine bodyPost_ret_by (results_cell_row1 (by rfl) _ _ (w.heap.size + 1 + 1) _ (by rfl) (load_itv HO2.out)) ?_ ?_; (focus rfl); (try dsimp only)
   exact ⟨rfl, HB.out⟩
  ·have h0b : (c == 0) = false := by rw [beq_eq_false_iff_ne]; exact h0
   clear hc
   obtain ⟨HO0, HO1, HO2, HB⟩ := bx3 w 84 #[.int .i64 a1, .int .i64 a2, .string a3, .bool ls, .int .i64 b1, .int .i64 b2, .string b3, .bool hs, .bool im] 82 #[.int .i64 x1, .int .i64 x2, .string x3, .bool s] 84 #[.int .i64 0, .int .i64 0, .string ⟨#[]⟩, .bool false, .int .i64 0, .int .i64 0, .string ⟨#[]⟩, .bool false, .bool false]
   obtain ⟨c0_0, c0_1, c0_2, c0_3, c0_4, c0_5, c0_6, c0_7, c0_8⟩ := oc9 HO0
   obtain ⟨c1_0, c1_1, c1_2, c1_3⟩ := oc4 HO1
   go_enter Tryz.func110, Tryz.ntmps110
   go_wp2_with fail
   with_reducible refine (HC.out _).mono ?_
   rintro e' w1 ⟨rfl, hb⟩
   clear c0_0 c0_1 c0_2 c0_3 c0_4 c0_5 c0_6 c0_7 c0_8 c1_0 c1_1 c1_2 c1_3
   replace HO0 := blw HO0 hb; replace HO1 := blw HO1 hb; replace HO2 := blw HO2 hb; replace HB := btr HB hb; clear hb
   obtain ⟨c0_0, c0_1, c0_2, c0_3, c0_4, c0_5, c0_6, c0_7, c0_8, m0_0, m0_1, m0_2, m0_3, m0_4, m0_5, m0_6, m0_7, m0_8⟩ := om9 HO0
   obtain ⟨c1_0, c1_1, c1_2, c1_3⟩ := oc4 HO1
   obtain ⟨c2_0, c2_1, c2_2, c2_3, c2_4, c2_5, c2_6, c2_7, c2_8, m2_0, m2_1, m2_2, m2_3, m2_4, m2_5, m2_6, m2_7, m2_8⟩ := om9 HO2
   go_wp2
   clear c0_0 c0_1 c0_2 c0_3 c0_4 c0_5 c0_6 c0_7 c0_8 m0_0 m0_1 m0_2 m0_3 m0_4 m0_5 m0_6 m0_7 m0_8 c1_0 c1_1 c1_2 c1_3 c2_0 c2_1 c2_2 c2_3 c2_4 c2_5 c2_6 c2_7 c2_8 m2_0 m2_1 m2_2 m2_3 m2_4 m2_5 m2_6 m2_7 m2_8
   obtain ⟨HX, HY, HF⟩ := s9 (.int .i64 a1) (.int .i64 a2) (.string a3) (.bool ls) (.int .i64 b1) (.int .i64 b2) (.string b3) (.bool hs) (.bool im) HO2 HB
   replace HO0 := HF _ _ _ HO0 (by omega); replace HO1 := HF _ _ _ HO1 (by omega); clear HF HO2 HB; have HO2 := HX; have HB := HY; clear HX HY
   (try simp only [Exit.inBlock, Exit.then]); refine bodyPost_ret_by (results_cell_row1 (by rfl) _ _ (w.heap.size + 1 + 1) _ (by rfl) (load_itv HO2.out)) ?_ ?_; (focus rfl); (try dsimp only)
   exact ⟨rfl, HB.out⟩
theorem pBlw_any (i : Itv) (b : Vl) (s : Bool) (w : World) : Calls Tryz.prog 111 #[itvV i, bndV b s] w fun e w' => e = .returned (itvV (blwI i b s)) ∧ Below w.heap.size w w' := by
 have HC := Lib.hid (fun W => pCmp_any b i.hi W)
 unfold blwI
 generalize cmpP b i.hi = c at *
 obtain ⟨⟨a1, a2, a3⟩, ls, ⟨b1, b2, b3⟩, hs, im⟩ := i
 obtain ⟨x1, x2, x3⟩ := b
 unfold valV at *
 unfold itvV bndV
 dsimp only at *
 by_cases hc : c < 0 ∨ c = 0 ∧ s = true
 ·rw [if_pos hc]
  rcases hc with hc | ⟨rfl, rfl⟩
  ·obtain ⟨HO0, HO1, HO2, HB⟩ := bx3 w 84 #[.int .i64 a1, .int .i64 a2, .string a3, .bool ls, .int .i64 b1, .int .i64 b2, .string b3, .bool hs, .bool im] 82 #[.int .i64 x1, .int .i64 x2, .string x3, .bool s] 84 #[.int .i64 0, .int .i64 0, .string ⟨#[]⟩, .bool false, .int .i64 0, .int .i64 0, .string ⟨#[]⟩, .bool false, .bool false]
   obtain ⟨c0_0, c0_1, c0_2, c0_3, c0_4, c0_5, c0_6, c0_7, c0_8⟩ := oc9 HO0
   obtain ⟨c1_0, c1_1, c1_2, c1_3⟩ := oc4 HO1
   go_enter Tryz.func111, Tryz.ntmps111
   go_wp2_with fail
   with_reducible refine (HC.out _).mono ?_
   rintro e' w1 ⟨rfl, hb⟩
   clear c0_0 c0_1 c0_2 c0_3 c0_4 c0_5 c0_6 c0_7 c0_8 c1_0 c1_1 c1_2 c1_3
   replace HO0 := blw HO0 hb; replace HO1 := blw HO1 hb; replace HO2 := blw HO2 hb; replace HB := btr HB hb; clear hb
   obtain ⟨c0_0, c0_1, c0_2, c0_3, c0_4, c0_5, c0_6, c0_7, c0_8, m0_0, m0_1, m0_2, m0_3, m0_4, m0_5, m0_6, m0_7, m0_8⟩ := om9 HO0
   obtain ⟨c1_0, c1_1, c1_2, c1_3⟩ := oc4 HO1
   obtain ⟨c2_0, c2_1, c2_2, c2_3, c2_4, c2_5, c2_6, c2_7, c2_8, m2_0, m2_1, m2_2, m2_3, m2_4, m2_5, m2_6, m2_7, m2_8⟩ := om9 HO2
   go_wp2
   clear c0_0 c0_1 c0_2 c0_3 c0_4 c0_5 c0_6 c0_7 c0_8 m0_0 m0_1 m0_2 m0_3 m0_4 m0_5 m0_6 m0_7 m0_8 c1_0 c1_1 c1_2 c1_3 c2_0 c2_1 c2_2 c2_3 c2_4 c2_5 c2_6 c2_7 c2_8 m2_0 m2_1 m2_2 m2_3 m2_4 m2_5 m2_6 m2_7 m2_8
   obtain ⟨HX, HY, HF⟩ := s98 (.int .i64 x1) (.int .i64 x2) (.string x3) (.bool s) HO0 HB
   replace HO1 := HF _ _ _ HO1 (by omega); replace HO2 := HF _ _ _ HO2 (by omega); clear HF HO0 HB; have HO0 := HX; have HB := HY; clear HX HY
   obtain ⟨HX, HY, HF⟩ := s9 (.int .i64 a1) (.int .i64 a2) (.string a3) (.bool ls) (.int .i64 x1) (.int .i64 x2) (.string x3) (.bool s) (.bool im) HO2 HB
   replace HO0 := HF _ _ _ HO0 (by omega); replace HO1 := HF _ _ _ HO1 (by omega); clear HF HO2 HB; have HO2 := HX; have HB := HY; clear HX HY
   (try simp only [Exit.inBlock, Exit.then]); refine bodyPost_ret_by (results_cell_row1 (by rfl) _ _ (w.heap.size + 1 + 1) _ (by rfl) (load_itv HO2.out)) ?_ ?_; (focus rfl); (try dsimp only)
   exact ⟨rfl, HB.out⟩
  ·obtain ⟨HO0, HO1, HO2, HB⟩ := bx3 w 84 #[.int .i64 a1, .int .i64 a2, .string a3, .bool ls, .int .i64 b1, .int .i64 b2, .string b3, .bool hs, .bool im] 82 #[.int .i64 x1, .int .i64 x2, .string x3, .bool true] 84 #[.int .i64 0, .int .i64 0, .string ⟨#[]⟩, .bool false, .int .i64 0, .int .i64 0, .string ⟨#[]⟩, .bool false, .bool false]
   obtain ⟨c0_0, c0_1, c0_2, c0_3, c0_4, c0_5, c0_6, c0_7, c0_8⟩ := oc9 HO0
   obtain ⟨c1_0, c1_1, c1_2, c1_3⟩ := oc4 HO1
   go_enter Tryz.func111, Tryz.ntmps111
   go_wp2_with fail
   with_reducible refine (HC.out _).mono ?_
   rintro e' w1 ⟨rfl, hb⟩
   clear c0_0 c0_1 c0_2 c0_3 c0_4 c0_5 c0_6 c0_7 c0_8 c1_0 c1_1 c1_2 c1_3
   replace HO0 := blw HO0 hb; replace HO1 := blw HO1 hb; replace HO2 := blw HO2 hb; replace HB := btr HB hb; clear hb
   obtain ⟨c0_0, c0_1, c0_2, c0_3, c0_4, c0_5, c0_6, c0_7, c0_8, m0_0, m0_1, m0_2, m0_3, m0_4, m0_5, m0_6, m0_7, m0_8⟩ := om9 HO0
   obtain ⟨c1_0, c1_1, c1_2, c1_3⟩ := oc4 HO1
   obtain ⟨c2_0, c2_1, c2_2, c2_3, c2_4, c2_5, c2_6, c2_7, c2_8, m2_0, m2_1, m2_2, m2_3, m2_4, m2_5, m2_6, m2_7, m2_8⟩ := om9 HO2
   go_wp2
   clear c0_0 c0_1 c0_2 c0_3 c0_4 c0_5 c0_6 c0_7 c0_8 m0_0 m0_1 m0_2 m0_3 m0_4 m0_5 m0_6 m0_7 m0_8 c1_0 c1_1 c1_2 c1_3 c2_0 c2_1 c2_2 c2_3 c2_4 c2_5 c2_6 c2_7 c2_8 m2_0 m2_1 m2_2 m2_3 m2_4 m2_5 m2_6 m2_7 m2_8
   obtain ⟨HX, HY, HF⟩ := s98 (.int .i64 x1) (.int .i64 x2) (.string x3) (.bool true) HO0 HB
   replace HO1 := HF _ _ _ HO1 (by omega); replace HO2 := HF _ _ _ HO2 (by omega); clear HF HO0 HB; have HO0 := HX; have HB := HY; clear HX HY
   obtain ⟨HX, HY, HF⟩ := s9 (.int .i64 a1) (.int .i64 a2) (.string a3) (.bool ls) (.int .i64 x1) (.int .i64 x2) (.string x3) (.bool true) (.bool im) HO2 HB
   replace HO0 := HF _ _ _ HO0 (by omega); replace HO1 := HF _ _ _ HO1 (by omega); clear HF HO2 HB; have HO2 := HX; have HB := HY; clear HX HY
   (try simp only [Exit.inBlock, Exit.then]); refine bodyPost_ret_by (results_cell_row1 (by rfl) _ _ (w.heap.size + 1 + 1) _ (by rfl) (load_itv HO2.out)) ?_ ?_; (focus rfl); (try dsimp only)
   exact ⟨rfl, HB.out⟩
 ·rw [if_neg hc]
  have h1 : ¬ (c < 0) := fun h => hc (.inl h)
  by_cases h0 : c = 0
  ·have hs0 : s = false := by cases s; rfl; exact absurd (.inr ⟨h0, rfl⟩) hc
   subst h0 hs0
   clear hc h1
   obtain ⟨HO0, HO1, HO2, HB⟩ := bx3 w 84 #[.int .i64 a1, .int .i64 a2, .string a3, .bool ls, .int .i64 b1, .int .i64 b2, .string b3, .bool hs, .bool im] 82 #[.int .i64 x1, .int .i64 x2, .string x3, .bool false] 84 #[.int .i64 0, .int .i64 0, .string ⟨#[]⟩, .bool false, .int .i64 0, .int .i64 0, .string ⟨#[]⟩, .bool false, .bool false]
   obtain ⟨c0_0, c0_1, c0_2, c0_3, c0_4, c0_5, c0_6, c0_7, c0_8⟩ := oc9 HO0
   obtain ⟨c1_0, c1_1, c1_2, c1_3⟩ := oc4 HO1
   go_enter Tryz.func111, Tryz.ntmps111
   go_wp2_with fail
   with_reducible refine (HC.out _).mono ?_
   rintro e' w1 ⟨rfl, hb⟩
   clear c0_0 c0_1 c0_2 c0_3 c0_4 c0_5 c0_6 c0_7 c0_8 c1_0 c1_1 c1_2 c1_3
   replace HO0 := blw HO0 hb; replace HO1 := blw HO1 hb; replace HO2 := blw HO2 hb; replace HB := btr HB hb; clear hb
   obtain ⟨c0_0, c0_1, c0_2, c0_3, c0_4, c0_5, c0_6, c0_7, c0_8, m0_0, m0_1, m0_2, m0_3, m0_4, m0_5, m0_6, m0_7, m0_8⟩ := om9 HO0
   obtain ⟨c1_0, c1_1, c1_2, c1_3⟩ := oc4 HO1
   obtain ⟨c2_0, c2_1, c2_2, c2_3, c2_4, c2_5, c2_6, c2_7, c2_8, m2_0, m2_1, m2_2, m2_3, m2_4, m2_5, m2_6, m2_7, m2_8⟩ := om9 HO2
   go_wp2
   clear c0_0 c0_1 c0_2 c0_3 c0_4 c0_5 c0_6 c0_7 c0_8 m0_0 m0_1 m0_2 m0_3 m0_4 m0_5 m0_6 m0_7 m0_8 c1_0 c1_1 c1_2 c1_3 c2_0 c2_1 c2_2 c2_3 c2_4 c2_5 c2_6 c2_7 c2_8 m2_0 m2_1 m2_2 m2_3 m2_4 m2_5 m2_6 m2_7 m2_8
   obtain ⟨HX, HY, HF⟩ := s9 (.int .i64 a1) (.int .i64 a2) (.string a3) (.bool ls) (.int .i64 b1) (.int .i64 b2) (.string b3) (.bool hs) (.bool im) HO2 HB
   replace HO0 := HF _ _ _ HO0 (by omega); replace HO1 := HF _ _ _ HO1 (by omega); clear HF HO2 HB; have HO2 := HX; have HB := HY; clear HX HY
   (try simp only [Exit.inBlock, Exit.then]); refine bodyPost_ret_by (results_cell_row1 (by rfl) _ _ (w.heap.size + 1 + 1) _ (by rfl) (load_itv HO2.out)) ?_ ?_; (focus rfl); (try dsimp only)
   exact ⟨rfl, HB.out⟩
  ·have h0b : (c == 0) = false := by rw [beq_eq_false_iff_ne]; exact h0
   clear hc
   obtain ⟨HO0, HO1, HO2, HB⟩ := bx3 w 84 #[.int .i64 a1, .int .i64 a2, .string a3, .bool ls, .int .i64 b1, .int .i64 b2, .string b3, .bool hs, .bool im] 82 #[.int .i64 x1, .int .i64 x2, .string x3, .bool s] 84 #[.int .i64 0, .int .i64 0, .string ⟨#[]⟩, .bool false, .int .i64 0, .int .i64 0, .string ⟨#[]⟩, .bool false, .bool false]
   obtain ⟨c0_0, c0_1, c0_2, c0_3, c0_4, c0_5, c0_6, c0_7, c0_8⟩ := oc9 HO0
   obtain ⟨c1_0, c1_1, c1_2, c1_3⟩ := oc4 HO1
   go_enter Tryz.func111, Tryz.ntmps111
   go_wp2_with fail
   with_reducible refine (HC.out _).mono ?_
   rintro e' w1 ⟨rfl, hb⟩
   clear c0_0 c0_1 c0_2 c0_3 c0_4 c0_5 c0_6 c0_7 c0_8 c1_0 c1_1 c1_2 c1_3
   replace HO0 := blw HO0 hb; replace HO1 := blw HO1 hb; replace HO2 := blw HO2 hb; replace HB := btr HB hb; clear hb
   obtain ⟨c0_0, c0_1, c0_2, c0_3, c0_4, c0_5, c0_6, c0_7, c0_8, m0_0, m0_1, m0_2, m0_3, m0_4, m0_5, m0_6, m0_7, m0_8⟩ := om9 HO0
   obtain ⟨c1_0, c1_1, c1_2, c1_3⟩ := oc4 HO1
   obtain ⟨c2_0, c2_1, c2_2, c2_3, c2_4, c2_5, c2_6, c2_7, c2_8, m2_0, m2_1, m2_2, m2_3, m2_4, m2_5, m2_6, m2_7, m2_8⟩ := om9 HO2
   go_wp2
   clear c0_0 c0_1 c0_2 c0_3 c0_4 c0_5 c0_6 c0_7 c0_8 m0_0 m0_1 m0_2 m0_3 m0_4 m0_5 m0_6 m0_7 m0_8 c1_0 c1_1 c1_2 c1_3 c2_0 c2_1 c2_2 c2_3 c2_4 c2_5 c2_6 c2_7 c2_8 m2_0 m2_1 m2_2 m2_3 m2_4 m2_5 m2_6 m2_7 m2_8
   obtain ⟨HX, HY, HF⟩ := s9 (.int .i64 a1) (.int .i64 a2) (.string a3) (.bool ls) (.int .i64 b1) (.int .i64 b2) (.string b3) (.bool hs) (.bool im) HO2 HB
   replace HO0 := HF _ _ _ HO0 (by omega); replace HO1 := HF _ _ _ HO1 (by omega); clear HF HO2 HB; have HO2 := HX; have HB := HY; clear HX HY
   (try simp only [Exit.inBlock, Exit.then]); refine bodyPost_ret_by (results_cell_row1 (by rfl) _ _ (w.heap.size + 1 + 1) _ (by rfl) (load_itv HO2.out)) ?_ ?_; (focus rfl); (try dsimp only)
   exact ⟨rfl, HB.out⟩
theorem pBey_any (v : Vl) (st : Int) (hv : -4611686018427387904 ≤ v.2.1 ∧ v.2.1 ≤ 4611686018427387904) (hst : -1 ≤ st ∧ st ≤ 1) (w : World) : Calls Tryz.prog 112 #[valV v, .int .i64 st] w fun e w' => e = .returned (bndV (beyI v st).1 (beyI v st).2) ∧ Below w.heap.size w w' := by
 obtain ⟨x1, x2, x3⟩ := v
 unfold beyI
 dsimp only at *
 by_cases h2 : x1 = 2
 ·subst h2
  rw [if_pos rfl]
  unfold valV bndV
  dsimp only
  go_enter Tryz.func112, Tryz.ntmps112
  go_wp2
  obtain ⟨HO0, HO1, HB⟩ := bx2 w 23 #[.int .i64 2, .int .i64 x2, .string x3] 82 #[.int .i64 2, .int .i64 x2, .string x3, .bool true]
  (try simp only [Exit.inBlock, Exit.then]); refine bodyPost_ret_by (results_cell_row1 (by rfl) _ _ (w.heap.size + 1) _ (by rfl) (load_bnd HO1.out)) ?_ ?_; (focus rfl); (try dsimp only)
  exact ⟨rfl, HB.out⟩
 ·rw [if_neg h2]
  have h2b : (x1 == 2) = false := by rw [beq_eq_false_iff_ne]; exact h2
  have hw : -9223372036854775808 ≤ x2 + st ∧ x2 + st ≤ 9223372036854775807 := by omega
  unfold valV bndV
  dsimp only
  go_enter Tryz.func112, Tryz.ntmps112
  go_wp2
  obtain ⟨HO0, HO1, HB⟩ := bx2 w 23 #[.int .i64 x1, .int .i64 (x2 + st), .string x3] 82 #[.int .i64 x1, .int .i64 (x2 + st), .string x3, .bool false]
  (try simp only [Exit.inBlock, Exit.then]); refine bodyPost_ret_by (results_cell_row1 (by rfl) _ _ (w.heap.size + 1) _ (by rfl) (load_bnd HO1.out)) ?_ ?_; (focus rfl); (try dsimp only)
  exact ⟨rfl, HB.out⟩
end Go.Proofs.YtdhemhmgenhmaaaGreat
