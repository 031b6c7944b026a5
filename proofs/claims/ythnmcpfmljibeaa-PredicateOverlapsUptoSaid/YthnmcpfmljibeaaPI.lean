import Derived.Test.YthnmcpfmljibeaaPA
import Derived.Test.YthnmcpfmljibeaaTA
import Derived.WalkKit
import Derived.WalkSpells
import Derived.WalkLawsBesides
import Derived.Deep.QuietTactic
import Derived.BigQuiet
import Derived.Handy
import Derived.Lib.Hide
/-
  Intervals of values, as predicate makes and narrows them. Conditions: numbers that are values.
-/
namespace Go.Proofs.Ythnmcpfmljibeaa
set_option maxRecDepth 100000
set_option linter.unusedVariables false
set_option linter.unusedSimpArgs false
open Go.RowKit

theorem load_itv {w : World} {g : Nat} {a b c d e f h i j : Value} (ho : Own w g 70 #[a, b, c, d, e, f, h, i, j]) : (loadVar 70 ⟨g, 0, none⟩).run Try.prog w = .ok (.agg #[a, b, c, d, e, f, h, i, j]) w :=
  run_loadVar_row w g 70 70 #[a, b, c, d, e, f, h, i, j] (0, 0) _ ho Try.underlying70 rfl (by kernel_rfl)
theorem load_bnd {w : World} {g : Nat} {a b c d : Value} (ho : Own w g 68 #[a, b, c, d]) : (loadVar 68 ⟨g, 0, none⟩).run Try.prog w = .ok (.agg #[a, b, c, d]) w :=
  run_loadVar_row w g 68 68 #[a, b, c, d] (0, 0) _ ho Try.underlying68 rfl (by kernel_rfl)
/-- The struct that stands for a bound. -/
def bndV (b : Vl) (s : Bool) : Value := .agg #[.int .i64 b.1, .int .i64 b.2.1, .string b.2.2, .bool s]
set_option maxRecDepth 100000 in
set_option maxHeartbeats 6400000 in
theorem pBtw_any (a b : Vl) (w : World) : Calls Try.prog 80 #[valV a, valV b] w fun e w' => e = .returned (itvV (btw a b)) ∧ Below w.heap.size w w' := by
  unfold valV itvV btw
  dsimp only
  go_enter Try.func80, Try.ntmps80
  go_wp2
  have HO0 := Lib.hid (show Own (((w.alloc (.cells #[.int .i64 a.1, .int .i64 a.2.1, .string a.2.2] 23)).alloc (.cells #[.int .i64 b.1, .int .i64 b.2.1, .string b.2.2] 23)).alloc (.cells #[.int .i64 a.1, .int .i64 a.2.1, .string a.2.2, .bool false, .int .i64 b.1, .int .i64 b.2.1, .string b.2.2, .bool false, .bool false] 70)) (w.heap.size) 23 #[.int .i64 a.1, .int .i64 a.2.1, .string a.2.2] from by have h := Own.new w 23 #[.int .i64 a.1, .int .i64 a.2.1, .string a.2.2]; (try simp only [World.size_alloc] at h); exact ((h.alloc (.cells #[.int .i64 b.1, .int .i64 b.2.1, .string b.2.2] 23)).alloc (.cells #[.int .i64 a.1, .int .i64 a.2.1, .string a.2.2, .bool false, .int .i64 b.1, .int .i64 b.2.1, .string b.2.2, .bool false, .bool false] 70)))
  have HO1 := Lib.hid (show Own (((w.alloc (.cells #[.int .i64 a.1, .int .i64 a.2.1, .string a.2.2] 23)).alloc (.cells #[.int .i64 b.1, .int .i64 b.2.1, .string b.2.2] 23)).alloc (.cells #[.int .i64 a.1, .int .i64 a.2.1, .string a.2.2, .bool false, .int .i64 b.1, .int .i64 b.2.1, .string b.2.2, .bool false, .bool false] 70)) (w.heap.size + 1) 23 #[.int .i64 b.1, .int .i64 b.2.1, .string b.2.2] from by have h := Own.new (w.alloc (.cells #[.int .i64 a.1, .int .i64 a.2.1, .string a.2.2] 23)) 23 #[.int .i64 b.1, .int .i64 b.2.1, .string b.2.2]; (try simp only [World.size_alloc] at h); exact (h.alloc (.cells #[.int .i64 a.1, .int .i64 a.2.1, .string a.2.2, .bool false, .int .i64 b.1, .int .i64 b.2.1, .string b.2.2, .bool false, .bool false] 70)))
  have HO2 := Lib.hid (show Own (((w.alloc (.cells #[.int .i64 a.1, .int .i64 a.2.1, .string a.2.2] 23)).alloc (.cells #[.int .i64 b.1, .int .i64 b.2.1, .string b.2.2] 23)).alloc (.cells #[.int .i64 a.1, .int .i64 a.2.1, .string a.2.2, .bool false, .int .i64 b.1, .int .i64 b.2.1, .string b.2.2, .bool false, .bool false] 70)) (w.heap.size + 1 + 1) 70 #[.int .i64 a.1, .int .i64 a.2.1, .string a.2.2, .bool false, .int .i64 b.1, .int .i64 b.2.1, .string b.2.2, .bool false, .bool false] from by have h := Own.new ((w.alloc (.cells #[.int .i64 a.1, .int .i64 a.2.1, .string a.2.2] 23)).alloc (.cells #[.int .i64 b.1, .int .i64 b.2.1, .string b.2.2] 23)) 70 #[.int .i64 a.1, .int .i64 a.2.1, .string a.2.2, .bool false, .int .i64 b.1, .int .i64 b.2.1, .string b.2.2, .bool false, .bool false]; (try simp only [World.size_alloc] at h); exact h)
  have HB := Lib.hid (show Below w.heap.size w (((w.alloc (.cells #[.int .i64 a.1, .int .i64 a.2.1, .string a.2.2] 23)).alloc (.cells #[.int .i64 b.1, .int .i64 b.2.1, .string b.2.2] 23)).alloc (.cells #[.int .i64 a.1, .int .i64 a.2.1, .string a.2.2, .bool false, .int .i64 b.1, .int .i64 b.2.1, .string b.2.2, .bool false, .bool false] 70)) from ((bel_mk w (.cells #[.int .i64 a.1, .int .i64 a.2.1, .string a.2.2] 23)).trans ((bel_mk (w.alloc (.cells #[.int .i64 a.1, .int .i64 a.2.1, .string a.2.2] 23)) (.cells #[.int .i64 b.1, .int .i64 b.2.1, .string b.2.2] 23)).mono (by simp only [World.size_alloc]; omega))).trans ((bel_mk ((w.alloc (.cells #[.int .i64 a.1, .int .i64 a.2.1, .string a.2.2] 23)).alloc (.cells #[.int .i64 b.1, .int .i64 b.2.1, .string b.2.2] 23)) (.cells #[.int .i64 a.1, .int .i64 a.2.1, .string a.2.2, .bool false, .int .i64 b.1, .int .i64 b.2.1, .string b.2.2, .bool false, .bool false] 70)).mono (by simp only [World.size_alloc]; omega)))
  (try simp only [Exit.inBlock, Exit.then]); refine bodyPost_ret_by (results_cell_row1 (by rfl) _ _ (w.heap.size + 1 + 1) _ (by rfl) (load_itv HO2.out)) ?_ ?_; (focus rfl); (try dsimp only)
  exact ⟨rfl, HB.out⟩
set_option maxRecDepth 100000 in
set_option maxHeartbeats 6400000 in
theorem pItI_any (a b : Int) (w : World) : Calls Try.prog 38 #[.int .i64 a, .int .i64 b] w fun e w' => e = .returned (itvV (itI a b)) ∧ Below w.heap.size w w' := by
  have HIa := Lib.hid (fun W => eInt a W)
  have HIb := Lib.hid (fun W => eInt b W)
  have HBT := Lib.hid (fun W => pBtw_any (intP a) (intP b) W)
  unfold itI
  generalize intP a = x at *
  generalize intP b = y at *
  unfold valV itvV btw at *
  dsimp only at *
  have HO0 := Lib.hid (show Own (w.alloc (.cells #[.int .i64 0, .int .i64 0, .string ⟨#[]⟩, .bool false, .int .i64 0, .int .i64 0, .string ⟨#[]⟩, .bool false, .bool false] 70)) (w.heap.size) 70 #[.int .i64 0, .int .i64 0, .string ⟨#[]⟩, .bool false, .int .i64 0, .int .i64 0, .string ⟨#[]⟩, .bool false, .bool false] from by have h := Own.new w 70 #[.int .i64 0, .int .i64 0, .string ⟨#[]⟩, .bool false, .int .i64 0, .int .i64 0, .string ⟨#[]⟩, .bool false, .bool false]; (try simp only [World.size_alloc] at h); exact h)
  have HB := Lib.hid (show Below w.heap.size w (w.alloc (.cells #[.int .i64 0, .int .i64 0, .string ⟨#[]⟩, .bool false, .int .i64 0, .int .i64 0, .string ⟨#[]⟩, .bool false, .bool false] 70)) from bel_mk w (.cells #[.int .i64 0, .int .i64 0, .string ⟨#[]⟩, .bool false, .int .i64 0, .int .i64 0, .string ⟨#[]⟩, .bool false, .bool false] 70))
  go_enter Try.func38, Try.ntmps38
  go_wp2_with fail
  with_reducible refine (HIa.out _).mono ?_
  rintro e' w1 ⟨rfl, hb⟩
  replace HO0 := Lib.hid (HO0.out.below hb HO0.out.lt)
  replace HB := Lib.hid (HB.out.trans (hb.mono HB.out.size))
  clear hb
  go_wp2_with fail
  with_reducible refine (HIb.out _).mono ?_
  rintro e' w2 ⟨rfl, hb⟩
  replace HO0 := Lib.hid (HO0.out.below hb HO0.out.lt)
  replace HB := Lib.hid (HB.out.trans (hb.mono HB.out.size))
  clear hb
  go_wp2_with fail
  with_reducible refine (HBT.out _).mono ?_
  rintro e' w3 ⟨rfl, hb⟩
  replace HO0 := Lib.hid (HO0.out.below hb HO0.out.lt)
  replace HB := Lib.hid (HB.out.trans (hb.mono HB.out.size))
  clear hb
  have c0_0 := HO0.out.cell 0
  have c0_1 := HO0.out.cell 1
  have c0_2 := HO0.out.cell 2
  have c0_3 := HO0.out.cell 3
  have c0_4 := HO0.out.cell 4
  have c0_5 := HO0.out.cell 5
  have c0_6 := HO0.out.cell 6
  have c0_7 := HO0.out.cell 7
  have c0_8 := HO0.out.cell 8
  have m0_0 := HO0.out.free 0
  have m0_1 := HO0.out.free 1
  have m0_2 := HO0.out.free 2
  have m0_3 := HO0.out.free 3
  have m0_4 := HO0.out.free 4
  have m0_5 := HO0.out.free 5
  have m0_6 := HO0.out.free 6
  have m0_7 := HO0.out.free 7
  have m0_8 := HO0.out.free 8
  go_wp2
  clear c0_0 c0_1 c0_2 c0_3 c0_4 c0_5 c0_6 c0_7 c0_8 m0_0 m0_1 m0_2 m0_3 m0_4 m0_5 m0_6 m0_7 m0_8
  have hxo := (((((((((HO0.out.store 0 (.int .i64 x.1)).store 1 (.int .i64 x.2.1)).store 2 (.string x.2.2)).store 3 (.bool false)).store 4 (.int .i64 y.1)).store 5 (.int .i64 y.2.1)).store 6 (.string y.2.2)).store 7 (.bool false)).store 8 (.bool false))
  simp only [List.setIfInBounds_toArray, List.set_cons_zero, List.set_cons_succ] at hxo
  have HXO := Lib.hid hxo
  clear hxo
  have HXB := Lib.hid ((((((((((HB.out.setCell (p := ⟨w.heap.size, 0, none⟩) (by show w.heap.size ≤ w.heap.size; omega) (.int .i64 x.1)).setCell (p := ⟨w.heap.size, 1, none⟩) (by show w.heap.size ≤ w.heap.size; omega) (.int .i64 x.2.1)).setCell (p := ⟨w.heap.size, 2, none⟩) (by show w.heap.size ≤ w.heap.size; omega) (.string x.2.2)).setCell (p := ⟨w.heap.size, 3, none⟩) (by show w.heap.size ≤ w.heap.size; omega) (.bool false)).setCell (p := ⟨w.heap.size, 4, none⟩) (by show w.heap.size ≤ w.heap.size; omega) (.int .i64 y.1)).setCell (p := ⟨w.heap.size, 5, none⟩) (by show w.heap.size ≤ w.heap.size; omega) (.int .i64 y.2.1)).setCell (p := ⟨w.heap.size, 6, none⟩) (by show w.heap.size ≤ w.heap.size; omega) (.string y.2.2)).setCell (p := ⟨w.heap.size, 7, none⟩) (by show w.heap.size ≤ w.heap.size; omega) (.bool false)).setCell (p := ⟨w.heap.size, 8, none⟩) (by show w.heap.size ≤ w.heap.size; omega) (.bool false)))
  replace HO0 := HXO
  replace HB := HXB
  clear HXO HXB
  (try simp only [Exit.inBlock, Exit.then]); refine bodyPost_ret_by (results_cell_row1 (by rfl) _ _ (w.heap.size) _ (by rfl) (load_itv HO0.out)) ?_ ?_; (focus rfl); (try dsimp only)
  exact ⟨rfl, HB.out⟩
set_option maxRecDepth 100000 in
set_option maxHeartbeats 6400000 in
theorem pAll_any (k : Int) (w : World) : Calls Try.prog 65 #[.int .i64 k] w fun e w' => e = .returned (itvV (allI k)) ∧ Below w.heap.size w w' := by
  unfold allI
  by_cases h1 : k = 1
  · subst h1
    rw [if_pos rfl]
    have HC := Lib.hid (fun W => pItI_any (-1125899906842624) 1125899906842624 W)
    generalize itI (-1125899906842624) 1125899906842624 = r at *
    unfold itvV at *
    have HO0 := Lib.hid (show Own (w.alloc (.cells #[.int .i64 0, .int .i64 0, .string ⟨#[]⟩, .bool false, .int .i64 0, .int .i64 0, .string ⟨#[]⟩, .bool false, .bool false] 70)) (w.heap.size) 70 #[.int .i64 0, .int .i64 0, .string ⟨#[]⟩, .bool false, .int .i64 0, .int .i64 0, .string ⟨#[]⟩, .bool false, .bool false] from by have h := Own.new w 70 #[.int .i64 0, .int .i64 0, .string ⟨#[]⟩, .bool false, .int .i64 0, .int .i64 0, .string ⟨#[]⟩, .bool false, .bool false]; (try simp only [World.size_alloc] at h); exact h)
    have HB := Lib.hid (show Below w.heap.size w (w.alloc (.cells #[.int .i64 0, .int .i64 0, .string ⟨#[]⟩, .bool false, .int .i64 0, .int .i64 0, .string ⟨#[]⟩, .bool false, .bool false] 70)) from bel_mk w (.cells #[.int .i64 0, .int .i64 0, .string ⟨#[]⟩, .bool false, .int .i64 0, .int .i64 0, .string ⟨#[]⟩, .bool false, .bool false] 70))
    go_enter Try.func65, Try.ntmps65
    go_wp2_with fail
    with_reducible refine (HC.out _).mono ?_
    rintro e' w1 ⟨rfl, hb⟩
    replace HO0 := Lib.hid (HO0.out.below hb HO0.out.lt)
    replace HB := Lib.hid (HB.out.trans (hb.mono HB.out.size))
    clear hb
    have c0_0 := HO0.out.cell 0
    have c0_1 := HO0.out.cell 1
    have c0_2 := HO0.out.cell 2
    have c0_3 := HO0.out.cell 3
    have c0_4 := HO0.out.cell 4
    have c0_5 := HO0.out.cell 5
    have c0_6 := HO0.out.cell 6
    have c0_7 := HO0.out.cell 7
    have c0_8 := HO0.out.cell 8
    have m0_0 := HO0.out.free 0
    have m0_1 := HO0.out.free 1
    have m0_2 := HO0.out.free 2
    have m0_3 := HO0.out.free 3
    have m0_4 := HO0.out.free 4
    have m0_5 := HO0.out.free 5
    have m0_6 := HO0.out.free 6
    have m0_7 := HO0.out.free 7
    have m0_8 := HO0.out.free 8
    go_wp2
    clear c0_0 c0_1 c0_2 c0_3 c0_4 c0_5 c0_6 c0_7 c0_8 m0_0 m0_1 m0_2 m0_3 m0_4 m0_5 m0_6 m0_7 m0_8
    have hxo := (((((((((HO0.out.store 0 (.int .i64 r.lo.1)).store 1 (.int .i64 r.lo.2.1)).store 2 (.string r.lo.2.2)).store 3 (.bool r.ls)).store 4 (.int .i64 r.hi.1)).store 5 (.int .i64 r.hi.2.1)).store 6 (.string r.hi.2.2)).store 7 (.bool r.hs)).store 8 (.bool r.im))
    simp only [List.setIfInBounds_toArray, List.set_cons_zero, List.set_cons_succ] at hxo
    have HXO := Lib.hid hxo
    clear hxo
    have HXB := Lib.hid ((((((((((HB.out.setCell (p := ⟨w.heap.size, 0, none⟩) (by show w.heap.size ≤ w.heap.size; omega) (.int .i64 r.lo.1)).setCell (p := ⟨w.heap.size, 1, none⟩) (by show w.heap.size ≤ w.heap.size; omega) (.int .i64 r.lo.2.1)).setCell (p := ⟨w.heap.size, 2, none⟩) (by show w.heap.size ≤ w.heap.size; omega) (.string r.lo.2.2)).setCell (p := ⟨w.heap.size, 3, none⟩) (by show w.heap.size ≤ w.heap.size; omega) (.bool r.ls)).setCell (p := ⟨w.heap.size, 4, none⟩) (by show w.heap.size ≤ w.heap.size; omega) (.int .i64 r.hi.1)).setCell (p := ⟨w.heap.size, 5, none⟩) (by show w.heap.size ≤ w.heap.size; omega) (.int .i64 r.hi.2.1)).setCell (p := ⟨w.heap.size, 6, none⟩) (by show w.heap.size ≤ w.heap.size; omega) (.string r.hi.2.2)).setCell (p := ⟨w.heap.size, 7, none⟩) (by show w.heap.size ≤ w.heap.size; omega) (.bool r.hs)).setCell (p := ⟨w.heap.size, 8, none⟩) (by show w.heap.size ≤ w.heap.size; omega) (.bool r.im)))
    replace HO0 := HXO
    replace HB := HXB
    clear HXO HXB
    (try simp only [Exit.inBlock, Exit.then]); refine bodyPost_ret_by (results_cell_row1 (by rfl) _ _ (w.heap.size) _ (by rfl) (load_itv HO0.out)) ?_ ?_; (focus rfl); (try dsimp only)
    exact ⟨rfl, HB.out⟩
  · rw [if_neg h1]
    have h1b : (k == 1) = false := by rw [beq_eq_false_iff_ne]; exact h1
    by_cases h3 : k = 3
    · subst h3
      rw [if_pos rfl]
      have HF := Lib.hid (fun W => eBool false W)
      have HT := Lib.hid (fun W => eBool true W)
      have HC := Lib.hid (fun W => pBtw_any (booP false) (booP true) W)
      generalize booP false = x at *
      generalize booP true = y at *
      generalize btw x y = r at *
      unfold valV itvV at *
      clear h1 h1b
      have HO0 := Lib.hid (show Own (w.alloc (.cells #[.int .i64 0, .int .i64 0, .string ⟨#[]⟩, .bool false, .int .i64 0, .int .i64 0, .string ⟨#[]⟩, .bool false, .bool false] 70)) (w.heap.size) 70 #[.int .i64 0, .int .i64 0, .string ⟨#[]⟩, .bool false, .int .i64 0, .int .i64 0, .string ⟨#[]⟩, .bool false, .bool false] from by have h := Own.new w 70 #[.int .i64 0, .int .i64 0, .string ⟨#[]⟩, .bool false, .int .i64 0, .int .i64 0, .string ⟨#[]⟩, .bool false, .bool false]; (try simp only [World.size_alloc] at h); exact h)
      have HB := Lib.hid (show Below w.heap.size w (w.alloc (.cells #[.int .i64 0, .int .i64 0, .string ⟨#[]⟩, .bool false, .int .i64 0, .int .i64 0, .string ⟨#[]⟩, .bool false, .bool false] 70)) from bel_mk w (.cells #[.int .i64 0, .int .i64 0, .string ⟨#[]⟩, .bool false, .int .i64 0, .int .i64 0, .string ⟨#[]⟩, .bool false, .bool false] 70))
      go_enter Try.func65, Try.ntmps65
      go_wp2_with fail
      with_reducible refine (HF.out _).mono ?_
      rintro e' w1 ⟨rfl, hb⟩
      replace HO0 := Lib.hid (HO0.out.below hb HO0.out.lt)
      replace HB := Lib.hid (HB.out.trans (hb.mono HB.out.size))
      clear hb
      go_wp2_with fail
      with_reducible refine (HT.out _).mono ?_
      rintro e' w2 ⟨rfl, hb⟩
      replace HO0 := Lib.hid (HO0.out.below hb HO0.out.lt)
      replace HB := Lib.hid (HB.out.trans (hb.mono HB.out.size))
      clear hb
      go_wp2_with fail
      with_reducible refine (HC.out _).mono ?_
      rintro e' w3 ⟨rfl, hb⟩
      replace HO0 := Lib.hid (HO0.out.below hb HO0.out.lt)
      replace HB := Lib.hid (HB.out.trans (hb.mono HB.out.size))
      clear hb
      have c0_0 := HO0.out.cell 0
      have c0_1 := HO0.out.cell 1
      have c0_2 := HO0.out.cell 2
      have c0_3 := HO0.out.cell 3
      have c0_4 := HO0.out.cell 4
      have c0_5 := HO0.out.cell 5
      have c0_6 := HO0.out.cell 6
      have c0_7 := HO0.out.cell 7
      have c0_8 := HO0.out.cell 8
      have m0_0 := HO0.out.free 0
      have m0_1 := HO0.out.free 1
      have m0_2 := HO0.out.free 2
      have m0_3 := HO0.out.free 3
      have m0_4 := HO0.out.free 4
      have m0_5 := HO0.out.free 5
      have m0_6 := HO0.out.free 6
      have m0_7 := HO0.out.free 7
      have m0_8 := HO0.out.free 8
      go_wp2
      clear c0_0 c0_1 c0_2 c0_3 c0_4 c0_5 c0_6 c0_7 c0_8 m0_0 m0_1 m0_2 m0_3 m0_4 m0_5 m0_6 m0_7 m0_8
      have hxo := (((((((((HO0.out.store 0 (.int .i64 r.lo.1)).store 1 (.int .i64 r.lo.2.1)).store 2 (.string r.lo.2.2)).store 3 (.bool r.ls)).store 4 (.int .i64 r.hi.1)).store 5 (.int .i64 r.hi.2.1)).store 6 (.string r.hi.2.2)).store 7 (.bool r.hs)).store 8 (.bool r.im))
      simp only [List.setIfInBounds_toArray, List.set_cons_zero, List.set_cons_succ] at hxo
      have HXO := Lib.hid hxo
      clear hxo
      have HXB := Lib.hid ((((((((((HB.out.setCell (p := ⟨w.heap.size, 0, none⟩) (by show w.heap.size ≤ w.heap.size; omega) (.int .i64 r.lo.1)).setCell (p := ⟨w.heap.size, 1, none⟩) (by show w.heap.size ≤ w.heap.size; omega) (.int .i64 r.lo.2.1)).setCell (p := ⟨w.heap.size, 2, none⟩) (by show w.heap.size ≤ w.heap.size; omega) (.string r.lo.2.2)).setCell (p := ⟨w.heap.size, 3, none⟩) (by show w.heap.size ≤ w.heap.size; omega) (.bool r.ls)).setCell (p := ⟨w.heap.size, 4, none⟩) (by show w.heap.size ≤ w.heap.size; omega) (.int .i64 r.hi.1)).setCell (p := ⟨w.heap.size, 5, none⟩) (by show w.heap.size ≤ w.heap.size; omega) (.int .i64 r.hi.2.1)).setCell (p := ⟨w.heap.size, 6, none⟩) (by show w.heap.size ≤ w.heap.size; omega) (.string r.hi.2.2)).setCell (p := ⟨w.heap.size, 7, none⟩) (by show w.heap.size ≤ w.heap.size; omega) (.bool r.hs)).setCell (p := ⟨w.heap.size, 8, none⟩) (by show w.heap.size ≤ w.heap.size; omega) (.bool r.im)))
      replace HO0 := HXO
      replace HB := HXB
      clear HXO HXB
      (try simp only [Exit.inBlock, Exit.then]); refine bodyPost_ret_by (results_cell_row1 (by rfl) _ _ (w.heap.size) _ (by rfl) (load_itv HO0.out)) ?_ ?_; (focus rfl); (try dsimp only)
      exact ⟨rfl, HB.out⟩
    · rw [if_neg h3]
      have h3b : (k == 3) = false := by rw [beq_eq_false_iff_ne]; exact h3
      have HT := Lib.hid (fun W => eText ⟨#[]⟩ W)
      have HC := Lib.hid (fun W => pBtw_any (txtP ⟨#[]⟩) (2, 0, ⟨#[127]⟩) W)
      generalize txtP ⟨#[]⟩ = x at *
      generalize btw x (2, 0, ⟨#[127]⟩) = r at *
      unfold valV itvV at *
      dsimp only at *
      clear h1 h3
      have HO0 := Lib.hid (show Own (w.alloc (.cells #[.int .i64 0, .int .i64 0, .string ⟨#[]⟩, .bool false, .int .i64 0, .int .i64 0, .string ⟨#[]⟩, .bool false, .bool false] 70)) (w.heap.size) 70 #[.int .i64 0, .int .i64 0, .string ⟨#[]⟩, .bool false, .int .i64 0, .int .i64 0, .string ⟨#[]⟩, .bool false, .bool false] from by have h := Own.new w 70 #[.int .i64 0, .int .i64 0, .string ⟨#[]⟩, .bool false, .int .i64 0, .int .i64 0, .string ⟨#[]⟩, .bool false, .bool false]; (try simp only [World.size_alloc] at h); exact h)
      have HB := Lib.hid (show Below w.heap.size w (w.alloc (.cells #[.int .i64 0, .int .i64 0, .string ⟨#[]⟩, .bool false, .int .i64 0, .int .i64 0, .string ⟨#[]⟩, .bool false, .bool false] 70)) from bel_mk w (.cells #[.int .i64 0, .int .i64 0, .string ⟨#[]⟩, .bool false, .int .i64 0, .int .i64 0, .string ⟨#[]⟩, .bool false, .bool false] 70))
      go_enter Try.func65, Try.ntmps65
      go_wp2_with fail
      with_reducible refine (HT.out _).mono ?_
      rintro e' w1 ⟨rfl, hb⟩
      replace HO0 := Lib.hid (HO0.out.below hb HO0.out.lt)
      replace HB := Lib.hid (HB.out.trans (hb.mono HB.out.size))
      clear hb
      go_wp2_with fail
      with_reducible refine (HC.out _).mono ?_
      rintro e' w2 ⟨rfl, hb⟩
      replace HO0 := Lib.hid (HO0.out.below hb HO0.out.lt)
      replace HB := Lib.hid (HB.out.trans (hb.mono HB.out.size))
      clear hb
      have c0_0 := HO0.out.cell 0
      have c0_1 := HO0.out.cell 1
      have c0_2 := HO0.out.cell 2
      have c0_3 := HO0.out.cell 3
      have c0_4 := HO0.out.cell 4
      have c0_5 := HO0.out.cell 5
      have c0_6 := HO0.out.cell 6
      have c0_7 := HO0.out.cell 7
      have c0_8 := HO0.out.cell 8
      have m0_0 := HO0.out.free 0
      have m0_1 := HO0.out.free 1
      have m0_2 := HO0.out.free 2
      have m0_3 := HO0.out.free 3
      have m0_4 := HO0.out.free 4
      have m0_5 := HO0.out.free 5
      have m0_6 := HO0.out.free 6
      have m0_7 := HO0.out.free 7
      have m0_8 := HO0.out.free 8
      go_wp2
      clear c0_0 c0_1 c0_2 c0_3 c0_4 c0_5 c0_6 c0_7 c0_8 m0_0 m0_1 m0_2 m0_3 m0_4 m0_5 m0_6 m0_7 m0_8
      have hxo := (((((((((HO0.out.store 0 (.int .i64 r.lo.1)).store 1 (.int .i64 r.lo.2.1)).store 2 (.string r.lo.2.2)).store 3 (.bool r.ls)).store 4 (.int .i64 r.hi.1)).store 5 (.int .i64 r.hi.2.1)).store 6 (.string r.hi.2.2)).store 7 (.bool r.hs)).store 8 (.bool r.im))
      simp only [List.setIfInBounds_toArray, List.set_cons_zero, List.set_cons_succ] at hxo
      have HXO := Lib.hid hxo
      clear hxo
      have HXB := Lib.hid ((((((((((HB.out.setCell (p := ⟨w.heap.size, 0, none⟩) (by show w.heap.size ≤ w.heap.size; omega) (.int .i64 r.lo.1)).setCell (p := ⟨w.heap.size, 1, none⟩) (by show w.heap.size ≤ w.heap.size; omega) (.int .i64 r.lo.2.1)).setCell (p := ⟨w.heap.size, 2, none⟩) (by show w.heap.size ≤ w.heap.size; omega) (.string r.lo.2.2)).setCell (p := ⟨w.heap.size, 3, none⟩) (by show w.heap.size ≤ w.heap.size; omega) (.bool r.ls)).setCell (p := ⟨w.heap.size, 4, none⟩) (by show w.heap.size ≤ w.heap.size; omega) (.int .i64 r.hi.1)).setCell (p := ⟨w.heap.size, 5, none⟩) (by show w.heap.size ≤ w.heap.size; omega) (.int .i64 r.hi.2.1)).setCell (p := ⟨w.heap.size, 6, none⟩) (by show w.heap.size ≤ w.heap.size; omega) (.string r.hi.2.2)).setCell (p := ⟨w.heap.size, 7, none⟩) (by show w.heap.size ≤ w.heap.size; omega) (.bool r.hs)).setCell (p := ⟨w.heap.size, 8, none⟩) (by show w.heap.size ≤ w.heap.size; omega) (.bool r.im)))
      replace HO0 := HXO
      replace HB := HXB
      clear HXO HXB
      (try simp only [Exit.inBlock, Exit.then]); refine bodyPost_ret_by (results_cell_row1 (by rfl) _ _ (w.heap.size) _ (by rfl) (load_itv HO0.out)) ?_ ?_; (focus rfl); (try dsimp only)
      exact ⟨rfl, HB.out⟩
set_option maxRecDepth 100000 in
set_option maxHeartbeats 6400000 in
theorem pEmp_any (i : Itv) (w : World) : Calls Try.prog 40 #[itvV i] w fun e w' => e = .returned (.bool (empI i)) ∧ Below w.heap.size w w' := by
  have HC := Lib.hid (fun W => pCmp_any i.lo i.hi W)
  unfold empI
  generalize cmpP i.lo i.hi = c at *
  obtain ⟨⟨a1, a2, a3⟩, ls, ⟨b1, b2, b3⟩, hs, im⟩ := i
  unfold valV itvV at *
  dsimp only at *
  have HO0 := Lib.hid (show Own (w.alloc (.cells #[.int .i64 a1, .int .i64 a2, .string a3, .bool ls, .int .i64 b1, .int .i64 b2, .string b3, .bool hs, .bool im] 70)) (w.heap.size) 70 #[.int .i64 a1, .int .i64 a2, .string a3, .bool ls, .int .i64 b1, .int .i64 b2, .string b3, .bool hs, .bool im] from by have h := Own.new w 70 #[.int .i64 a1, .int .i64 a2, .string a3, .bool ls, .int .i64 b1, .int .i64 b2, .string b3, .bool hs, .bool im]; (try simp only [World.size_alloc] at h); exact h)
  have HB := Lib.hid (show Below w.heap.size w (w.alloc (.cells #[.int .i64 a1, .int .i64 a2, .string a3, .bool ls, .int .i64 b1, .int .i64 b2, .string b3, .bool hs, .bool im] 70)) from bel_mk w (.cells #[.int .i64 a1, .int .i64 a2, .string a3, .bool ls, .int .i64 b1, .int .i64 b2, .string b3, .bool hs, .bool im] 70))
  have c0_0 := HO0.out.cell 0
  have c0_1 := HO0.out.cell 1
  have c0_2 := HO0.out.cell 2
  have c0_3 := HO0.out.cell 3
  have c0_4 := HO0.out.cell 4
  have c0_5 := HO0.out.cell 5
  have c0_6 := HO0.out.cell 6
  have c0_7 := HO0.out.cell 7
  have c0_8 := HO0.out.cell 8
  go_enter Try.func40, Try.ntmps40
  go_wp2_with fail
  with_reducible refine (HC.out _).mono ?_
  rintro e' w1 ⟨rfl, hb⟩
  clear c0_0 c0_1 c0_2 c0_3 c0_4 c0_5 c0_6 c0_7 c0_8
  replace HO0 := Lib.hid (HO0.out.below hb HO0.out.lt)
  replace HB := Lib.hid (HB.out.trans (hb.mono HB.out.size))
  clear hb
  have c0_3 := HO0.out.cell 3
  have c0_7 := HO0.out.cell 7
  have c0_8 := HO0.out.cell 8
  rcases Int.lt_trichotomy 0 c with h | h | h
  · have hd : decide (0 < c) = true := decide_eq_true h
    cases im
    all_goals
      go_wp2
      go_ret
      exact ⟨by simp [hd], HB.out⟩
  · subst h
    cases im
    · cases ls
      · cases hs
        all_goals
          go_wp2
          go_ret
          exact ⟨by simp, HB.out⟩
      · go_wp2
        go_ret
        exact ⟨by simp, HB.out⟩
    · go_wp2
      go_ret
      exact ⟨by simp, HB.out⟩
  · have hd : ¬ (0 < c) := by omega
    have hd2 : ¬ (c = 0) := by omega
    have hd3 : (c == 0) = false := by rw [beq_eq_false_iff_ne]; exact hd2
    cases im
    all_goals
      go_wp2
      go_ret
      exact ⟨by simp [hd, hd2], HB.out⟩
set_option maxRecDepth 100000 in
set_option maxHeartbeats 6400000 in
theorem pAbv_any (i : Itv) (b : Vl) (s : Bool) (w : World) : Calls Try.prog 81 #[itvV i, bndV b s] w fun e w' => e = .returned (itvV (abvI i b s)) ∧ Below w.heap.size w w' := by
  have HC := Lib.hid (fun W => pCmp_any b i.lo W)
  unfold abvI
  generalize cmpP b i.lo = c at *
  obtain ⟨⟨a1, a2, a3⟩, ls, ⟨b1, b2, b3⟩, hs, im⟩ := i
  obtain ⟨x1, x2, x3⟩ := b
  unfold valV at *
  unfold itvV bndV
  dsimp only at *
  by_cases hc : 0 < c ∨ c = 0 ∧ s = true
  · rw [if_pos hc]
    rcases hc with hc | ⟨rfl, rfl⟩
    · have HO0 := Lib.hid (show Own (((w.alloc (.cells #[.int .i64 a1, .int .i64 a2, .string a3, .bool ls, .int .i64 b1, .int .i64 b2, .string b3, .bool hs, .bool im] 70)).alloc (.cells #[.int .i64 x1, .int .i64 x2, .string x3, .bool s] 68)).alloc (.cells #[.int .i64 0, .int .i64 0, .string ⟨#[]⟩, .bool false, .int .i64 0, .int .i64 0, .string ⟨#[]⟩, .bool false, .bool false] 70)) (w.heap.size) 70 #[.int .i64 a1, .int .i64 a2, .string a3, .bool ls, .int .i64 b1, .int .i64 b2, .string b3, .bool hs, .bool im] from by have h := Own.new w 70 #[.int .i64 a1, .int .i64 a2, .string a3, .bool ls, .int .i64 b1, .int .i64 b2, .string b3, .bool hs, .bool im]; (try simp only [World.size_alloc] at h); exact ((h.alloc (.cells #[.int .i64 x1, .int .i64 x2, .string x3, .bool s] 68)).alloc (.cells #[.int .i64 0, .int .i64 0, .string ⟨#[]⟩, .bool false, .int .i64 0, .int .i64 0, .string ⟨#[]⟩, .bool false, .bool false] 70)))
      have HO1 := Lib.hid (show Own (((w.alloc (.cells #[.int .i64 a1, .int .i64 a2, .string a3, .bool ls, .int .i64 b1, .int .i64 b2, .string b3, .bool hs, .bool im] 70)).alloc (.cells #[.int .i64 x1, .int .i64 x2, .string x3, .bool s] 68)).alloc (.cells #[.int .i64 0, .int .i64 0, .string ⟨#[]⟩, .bool false, .int .i64 0, .int .i64 0, .string ⟨#[]⟩, .bool false, .bool false] 70)) (w.heap.size + 1) 68 #[.int .i64 x1, .int .i64 x2, .string x3, .bool s] from by have h := Own.new (w.alloc (.cells #[.int .i64 a1, .int .i64 a2, .string a3, .bool ls, .int .i64 b1, .int .i64 b2, .string b3, .bool hs, .bool im] 70)) 68 #[.int .i64 x1, .int .i64 x2, .string x3, .bool s]; (try simp only [World.size_alloc] at h); exact (h.alloc (.cells #[.int .i64 0, .int .i64 0, .string ⟨#[]⟩, .bool false, .int .i64 0, .int .i64 0, .string ⟨#[]⟩, .bool false, .bool false] 70)))
      have HO2 := Lib.hid (show Own (((w.alloc (.cells #[.int .i64 a1, .int .i64 a2, .string a3, .bool ls, .int .i64 b1, .int .i64 b2, .string b3, .bool hs, .bool im] 70)).alloc (.cells #[.int .i64 x1, .int .i64 x2, .string x3, .bool s] 68)).alloc (.cells #[.int .i64 0, .int .i64 0, .string ⟨#[]⟩, .bool false, .int .i64 0, .int .i64 0, .string ⟨#[]⟩, .bool false, .bool false] 70)) (w.heap.size + 1 + 1) 70 #[.int .i64 0, .int .i64 0, .string ⟨#[]⟩, .bool false, .int .i64 0, .int .i64 0, .string ⟨#[]⟩, .bool false, .bool false] from by have h := Own.new ((w.alloc (.cells #[.int .i64 a1, .int .i64 a2, .string a3, .bool ls, .int .i64 b1, .int .i64 b2, .string b3, .bool hs, .bool im] 70)).alloc (.cells #[.int .i64 x1, .int .i64 x2, .string x3, .bool s] 68)) 70 #[.int .i64 0, .int .i64 0, .string ⟨#[]⟩, .bool false, .int .i64 0, .int .i64 0, .string ⟨#[]⟩, .bool false, .bool false]; (try simp only [World.size_alloc] at h); exact h)
      have HB := Lib.hid (show Below w.heap.size w (((w.alloc (.cells #[.int .i64 a1, .int .i64 a2, .string a3, .bool ls, .int .i64 b1, .int .i64 b2, .string b3, .bool hs, .bool im] 70)).alloc (.cells #[.int .i64 x1, .int .i64 x2, .string x3, .bool s] 68)).alloc (.cells #[.int .i64 0, .int .i64 0, .string ⟨#[]⟩, .bool false, .int .i64 0, .int .i64 0, .string ⟨#[]⟩, .bool false, .bool false] 70)) from ((bel_mk w (.cells #[.int .i64 a1, .int .i64 a2, .string a3, .bool ls, .int .i64 b1, .int .i64 b2, .string b3, .bool hs, .bool im] 70)).trans ((bel_mk (w.alloc (.cells #[.int .i64 a1, .int .i64 a2, .string a3, .bool ls, .int .i64 b1, .int .i64 b2, .string b3, .bool hs, .bool im] 70)) (.cells #[.int .i64 x1, .int .i64 x2, .string x3, .bool s] 68)).mono (by simp only [World.size_alloc]; omega))).trans ((bel_mk ((w.alloc (.cells #[.int .i64 a1, .int .i64 a2, .string a3, .bool ls, .int .i64 b1, .int .i64 b2, .string b3, .bool hs, .bool im] 70)).alloc (.cells #[.int .i64 x1, .int .i64 x2, .string x3, .bool s] 68)) (.cells #[.int .i64 0, .int .i64 0, .string ⟨#[]⟩, .bool false, .int .i64 0, .int .i64 0, .string ⟨#[]⟩, .bool false, .bool false] 70)).mono (by simp only [World.size_alloc]; omega)))
      have c0_0 := HO0.out.cell 0
      have c0_1 := HO0.out.cell 1
      have c0_2 := HO0.out.cell 2
      have c0_3 := HO0.out.cell 3
      have c0_4 := HO0.out.cell 4
      have c0_5 := HO0.out.cell 5
      have c0_6 := HO0.out.cell 6
      have c0_7 := HO0.out.cell 7
      have c0_8 := HO0.out.cell 8
      have c1_0 := HO1.out.cell 0
      have c1_1 := HO1.out.cell 1
      have c1_2 := HO1.out.cell 2
      have c1_3 := HO1.out.cell 3
      go_enter Try.func81, Try.ntmps81
      go_wp2_with fail
      with_reducible refine (HC.out _).mono ?_
      rintro e' w1 ⟨rfl, hb⟩
      clear c0_0 c0_1 c0_2 c0_3 c0_4 c0_5 c0_6 c0_7 c0_8 c1_0 c1_1 c1_2 c1_3
      replace HO0 := Lib.hid (HO0.out.below hb HO0.out.lt)
      replace HO1 := Lib.hid (HO1.out.below hb HO1.out.lt)
      replace HO2 := Lib.hid (HO2.out.below hb HO2.out.lt)
      replace HB := Lib.hid (HB.out.trans (hb.mono HB.out.size))
      clear hb
      have c0_0 := HO0.out.cell 0
      have c0_1 := HO0.out.cell 1
      have c0_2 := HO0.out.cell 2
      have c0_3 := HO0.out.cell 3
      have c0_4 := HO0.out.cell 4
      have c0_5 := HO0.out.cell 5
      have c0_6 := HO0.out.cell 6
      have c0_7 := HO0.out.cell 7
      have c0_8 := HO0.out.cell 8
      have m0_0 := HO0.out.free 0
      have m0_1 := HO0.out.free 1
      have m0_2 := HO0.out.free 2
      have m0_3 := HO0.out.free 3
      have m0_4 := HO0.out.free 4
      have m0_5 := HO0.out.free 5
      have m0_6 := HO0.out.free 6
      have m0_7 := HO0.out.free 7
      have m0_8 := HO0.out.free 8
      have c1_0 := HO1.out.cell 0
      have c1_1 := HO1.out.cell 1
      have c1_2 := HO1.out.cell 2
      have c1_3 := HO1.out.cell 3
      have c2_0 := HO2.out.cell 0
      have c2_1 := HO2.out.cell 1
      have c2_2 := HO2.out.cell 2
      have c2_3 := HO2.out.cell 3
      have c2_4 := HO2.out.cell 4
      have c2_5 := HO2.out.cell 5
      have c2_6 := HO2.out.cell 6
      have c2_7 := HO2.out.cell 7
      have c2_8 := HO2.out.cell 8
      have m2_0 := HO2.out.free 0
      have m2_1 := HO2.out.free 1
      have m2_2 := HO2.out.free 2
      have m2_3 := HO2.out.free 3
      have m2_4 := HO2.out.free 4
      have m2_5 := HO2.out.free 5
      have m2_6 := HO2.out.free 6
      have m2_7 := HO2.out.free 7
      have m2_8 := HO2.out.free 8
      go_wp2
      clear c0_0 c0_1 c0_2 c0_3 c0_4 c0_5 c0_6 c0_7 c0_8 m0_0 m0_1 m0_2 m0_3 m0_4 m0_5 m0_6 m0_7 m0_8 c1_0 c1_1 c1_2 c1_3 c2_0 c2_1 c2_2 c2_3 c2_4 c2_5 c2_6 c2_7 c2_8 m2_0 m2_1 m2_2 m2_3 m2_4 m2_5 m2_6 m2_7 m2_8
      have hxo := ((((HO0.out.store 0 (.int .i64 x1)).store 1 (.int .i64 x2)).store 2 (.string x3)).store 3 (.bool s))
      simp only [List.setIfInBounds_toArray, List.set_cons_zero, List.set_cons_succ] at hxo
      have HXO := Lib.hid hxo
      clear hxo
      have HXB := Lib.hid (((((HB.out.setCell (p := ⟨w.heap.size, 0, none⟩) (by show w.heap.size ≤ w.heap.size; omega) (.int .i64 x1)).setCell (p := ⟨w.heap.size, 1, none⟩) (by show w.heap.size ≤ w.heap.size; omega) (.int .i64 x2)).setCell (p := ⟨w.heap.size, 2, none⟩) (by show w.heap.size ≤ w.heap.size; omega) (.string x3)).setCell (p := ⟨w.heap.size, 3, none⟩) (by show w.heap.size ≤ w.heap.size; omega) (.bool s)))
      replace HO1 := Lib.hid ((((HO1.out.far (p := ⟨w.heap.size, 0, none⟩) (by show w.heap.size + 1 ≠ w.heap.size; omega) (.int .i64 x1)).far (p := ⟨w.heap.size, 1, none⟩) (by show w.heap.size + 1 ≠ w.heap.size; omega) (.int .i64 x2)).far (p := ⟨w.heap.size, 2, none⟩) (by show w.heap.size + 1 ≠ w.heap.size; omega) (.string x3)).far (p := ⟨w.heap.size, 3, none⟩) (by show w.heap.size + 1 ≠ w.heap.size; omega) (.bool s))
      replace HO2 := Lib.hid ((((HO2.out.far (p := ⟨w.heap.size, 0, none⟩) (by show w.heap.size + 1 + 1 ≠ w.heap.size; omega) (.int .i64 x1)).far (p := ⟨w.heap.size, 1, none⟩) (by show w.heap.size + 1 + 1 ≠ w.heap.size; omega) (.int .i64 x2)).far (p := ⟨w.heap.size, 2, none⟩) (by show w.heap.size + 1 + 1 ≠ w.heap.size; omega) (.string x3)).far (p := ⟨w.heap.size, 3, none⟩) (by show w.heap.size + 1 + 1 ≠ w.heap.size; omega) (.bool s))
      replace HO0 := HXO
      replace HB := HXB
      clear HXO HXB
      have hxo := (((((((((HO2.out.store 0 (.int .i64 x1)).store 1 (.int .i64 x2)).store 2 (.string x3)).store 3 (.bool s)).store 4 (.int .i64 b1)).store 5 (.int .i64 b2)).store 6 (.string b3)).store 7 (.bool hs)).store 8 (.bool im))
      simp only [List.setIfInBounds_toArray, List.set_cons_zero, List.set_cons_succ] at hxo
      have HXO := Lib.hid hxo
      clear hxo
      have HXB := Lib.hid ((((((((((HB.out.setCell (p := ⟨w.heap.size + 1 + 1, 0, none⟩) (by show w.heap.size ≤ w.heap.size + 1 + 1; omega) (.int .i64 x1)).setCell (p := ⟨w.heap.size + 1 + 1, 1, none⟩) (by show w.heap.size ≤ w.heap.size + 1 + 1; omega) (.int .i64 x2)).setCell (p := ⟨w.heap.size + 1 + 1, 2, none⟩) (by show w.heap.size ≤ w.heap.size + 1 + 1; omega) (.string x3)).setCell (p := ⟨w.heap.size + 1 + 1, 3, none⟩) (by show w.heap.size ≤ w.heap.size + 1 + 1; omega) (.bool s)).setCell (p := ⟨w.heap.size + 1 + 1, 4, none⟩) (by show w.heap.size ≤ w.heap.size + 1 + 1; omega) (.int .i64 b1)).setCell (p := ⟨w.heap.size + 1 + 1, 5, none⟩) (by show w.heap.size ≤ w.heap.size + 1 + 1; omega) (.int .i64 b2)).setCell (p := ⟨w.heap.size + 1 + 1, 6, none⟩) (by show w.heap.size ≤ w.heap.size + 1 + 1; omega) (.string b3)).setCell (p := ⟨w.heap.size + 1 + 1, 7, none⟩) (by show w.heap.size ≤ w.heap.size + 1 + 1; omega) (.bool hs)).setCell (p := ⟨w.heap.size + 1 + 1, 8, none⟩) (by show w.heap.size ≤ w.heap.size + 1 + 1; omega) (.bool im)))
      replace HO0 := Lib.hid (((((((((HO0.out.far (p := ⟨w.heap.size + 1 + 1, 0, none⟩) (by show w.heap.size ≠ w.heap.size + 1 + 1; omega) (.int .i64 x1)).far (p := ⟨w.heap.size + 1 + 1, 1, none⟩) (by show w.heap.size ≠ w.heap.size + 1 + 1; omega) (.int .i64 x2)).far (p := ⟨w.heap.size + 1 + 1, 2, none⟩) (by show w.heap.size ≠ w.heap.size + 1 + 1; omega) (.string x3)).far (p := ⟨w.heap.size + 1 + 1, 3, none⟩) (by show w.heap.size ≠ w.heap.size + 1 + 1; omega) (.bool s)).far (p := ⟨w.heap.size + 1 + 1, 4, none⟩) (by show w.heap.size ≠ w.heap.size + 1 + 1; omega) (.int .i64 b1)).far (p := ⟨w.heap.size + 1 + 1, 5, none⟩) (by show w.heap.size ≠ w.heap.size + 1 + 1; omega) (.int .i64 b2)).far (p := ⟨w.heap.size + 1 + 1, 6, none⟩) (by show w.heap.size ≠ w.heap.size + 1 + 1; omega) (.string b3)).far (p := ⟨w.heap.size + 1 + 1, 7, none⟩) (by show w.heap.size ≠ w.heap.size + 1 + 1; omega) (.bool hs)).far (p := ⟨w.heap.size + 1 + 1, 8, none⟩) (by show w.heap.size ≠ w.heap.size + 1 + 1; omega) (.bool im))
      replace HO1 := Lib.hid (((((((((HO1.out.far (p := ⟨w.heap.size + 1 + 1, 0, none⟩) (by show w.heap.size + 1 ≠ w.heap.size + 1 + 1; omega) (.int .i64 x1)).far (p := ⟨w.heap.size + 1 + 1, 1, none⟩) (by show w.heap.size + 1 ≠ w.heap.size + 1 + 1; omega) (.int .i64 x2)).far (p := ⟨w.heap.size + 1 + 1, 2, none⟩) (by show w.heap.size + 1 ≠ w.heap.size + 1 + 1; omega) (.string x3)).far (p := ⟨w.heap.size + 1 + 1, 3, none⟩) (by show w.heap.size + 1 ≠ w.heap.size + 1 + 1; omega) (.bool s)).far (p := ⟨w.heap.size + 1 + 1, 4, none⟩) (by show w.heap.size + 1 ≠ w.heap.size + 1 + 1; omega) (.int .i64 b1)).far (p := ⟨w.heap.size + 1 + 1, 5, none⟩) (by show w.heap.size + 1 ≠ w.heap.size + 1 + 1; omega) (.int .i64 b2)).far (p := ⟨w.heap.size + 1 + 1, 6, none⟩) (by show w.heap.size + 1 ≠ w.heap.size + 1 + 1; omega) (.string b3)).far (p := ⟨w.heap.size + 1 + 1, 7, none⟩) (by show w.heap.size + 1 ≠ w.heap.size + 1 + 1; omega) (.bool hs)).far (p := ⟨w.heap.size + 1 + 1, 8, none⟩) (by show w.heap.size + 1 ≠ w.heap.size + 1 + 1; omega) (.bool im))
      replace HO2 := HXO
      replace HB := HXB
      clear HXO HXB
      (try simp only [Exit.inBlock, Exit.then]); refine bodyPost_ret_by (results_cell_row1 (by rfl) _ _ (w.heap.size + 1 + 1) _ (by rfl) (load_itv HO2.out)) ?_ ?_; (focus rfl); (try dsimp only)
      exact ⟨rfl, HB.out⟩
    · have HO0 := Lib.hid (show Own (((w.alloc (.cells #[.int .i64 a1, .int .i64 a2, .string a3, .bool ls, .int .i64 b1, .int .i64 b2, .string b3, .bool hs, .bool im] 70)).alloc (.cells #[.int .i64 x1, .int .i64 x2, .string x3, .bool true] 68)).alloc (.cells #[.int .i64 0, .int .i64 0, .string ⟨#[]⟩, .bool false, .int .i64 0, .int .i64 0, .string ⟨#[]⟩, .bool false, .bool false] 70)) (w.heap.size) 70 #[.int .i64 a1, .int .i64 a2, .string a3, .bool ls, .int .i64 b1, .int .i64 b2, .string b3, .bool hs, .bool im] from by have h := Own.new w 70 #[.int .i64 a1, .int .i64 a2, .string a3, .bool ls, .int .i64 b1, .int .i64 b2, .string b3, .bool hs, .bool im]; (try simp only [World.size_alloc] at h); exact ((h.alloc (.cells #[.int .i64 x1, .int .i64 x2, .string x3, .bool true] 68)).alloc (.cells #[.int .i64 0, .int .i64 0, .string ⟨#[]⟩, .bool false, .int .i64 0, .int .i64 0, .string ⟨#[]⟩, .bool false, .bool false] 70)))
      have HO1 := Lib.hid (show Own (((w.alloc (.cells #[.int .i64 a1, .int .i64 a2, .string a3, .bool ls, .int .i64 b1, .int .i64 b2, .string b3, .bool hs, .bool im] 70)).alloc (.cells #[.int .i64 x1, .int .i64 x2, .string x3, .bool true] 68)).alloc (.cells #[.int .i64 0, .int .i64 0, .string ⟨#[]⟩, .bool false, .int .i64 0, .int .i64 0, .string ⟨#[]⟩, .bool false, .bool false] 70)) (w.heap.size + 1) 68 #[.int .i64 x1, .int .i64 x2, .string x3, .bool true] from by have h := Own.new (w.alloc (.cells #[.int .i64 a1, .int .i64 a2, .string a3, .bool ls, .int .i64 b1, .int .i64 b2, .string b3, .bool hs, .bool im] 70)) 68 #[.int .i64 x1, .int .i64 x2, .string x3, .bool true]; (try simp only [World.size_alloc] at h); exact (h.alloc (.cells #[.int .i64 0, .int .i64 0, .string ⟨#[]⟩, .bool false, .int .i64 0, .int .i64 0, .string ⟨#[]⟩, .bool false, .bool false] 70)))
      have HO2 := Lib.hid (show Own (((w.alloc (.cells #[.int .i64 a1, .int .i64 a2, .string a3, .bool ls, .int .i64 b1, .int .i64 b2, .string b3, .bool hs, .bool im] 70)).alloc (.cells #[.int .i64 x1, .int .i64 x2, .string x3, .bool true] 68)).alloc (.cells #[.int .i64 0, .int .i64 0, .string ⟨#[]⟩, .bool false, .int .i64 0, .int .i64 0, .string ⟨#[]⟩, .bool false, .bool false] 70)) (w.heap.size + 1 + 1) 70 #[.int .i64 0, .int .i64 0, .string ⟨#[]⟩, .bool false, .int .i64 0, .int .i64 0, .string ⟨#[]⟩, .bool false, .bool false] from by have h := Own.new ((w.alloc (.cells #[.int .i64 a1, .int .i64 a2, .string a3, .bool ls, .int .i64 b1, .int .i64 b2, .string b3, .bool hs, .bool im] 70)).alloc (.cells #[.int .i64 x1, .int .i64 x2, .string x3, .bool true] 68)) 70 #[.int .i64 0, .int .i64 0, .string ⟨#[]⟩, .bool false, .int .i64 0, .int .i64 0, .string ⟨#[]⟩, .bool false, .bool false]; (try simp only [World.size_alloc] at h); exact h)
      have HB := Lib.hid (show Below w.heap.size w (((w.alloc (.cells #[.int .i64 a1, .int .i64 a2, .string a3, .bool ls, .int .i64 b1, .int .i64 b2, .string b3, .bool hs, .bool im] 70)).alloc (.cells #[.int .i64 x1, .int .i64 x2, .string x3, .bool true] 68)).alloc (.cells #[.int .i64 0, .int .i64 0, .string ⟨#[]⟩, .bool false, .int .i64 0, .int .i64 0, .string ⟨#[]⟩, .bool false, .bool false] 70)) from ((bel_mk w (.cells #[.int .i64 a1, .int .i64 a2, .string a3, .bool ls, .int .i64 b1, .int .i64 b2, .string b3, .bool hs, .bool im] 70)).trans ((bel_mk (w.alloc (.cells #[.int .i64 a1, .int .i64 a2, .string a3, .bool ls, .int .i64 b1, .int .i64 b2, .string b3, .bool hs, .bool im] 70)) (.cells #[.int .i64 x1, .int .i64 x2, .string x3, .bool true] 68)).mono (by simp only [World.size_alloc]; omega))).trans ((bel_mk ((w.alloc (.cells #[.int .i64 a1, .int .i64 a2, .string a3, .bool ls, .int .i64 b1, .int .i64 b2, .string b3, .bool hs, .bool im] 70)).alloc (.cells #[.int .i64 x1, .int .i64 x2, .string x3, .bool true] 68)) (.cells #[.int .i64 0, .int .i64 0, .string ⟨#[]⟩, .bool false, .int .i64 0, .int .i64 0, .string ⟨#[]⟩, .bool false, .bool false] 70)).mono (by simp only [World.size_alloc]; omega)))
      have c0_0 := HO0.out.cell 0
      have c0_1 := HO0.out.cell 1
      have c0_2 := HO0.out.cell 2
      have c0_3 := HO0.out.cell 3
      have c0_4 := HO0.out.cell 4
      have c0_5 := HO0.out.cell 5
      have c0_6 := HO0.out.cell 6
      have c0_7 := HO0.out.cell 7
      have c0_8 := HO0.out.cell 8
      have c1_0 := HO1.out.cell 0
      have c1_1 := HO1.out.cell 1
      have c1_2 := HO1.out.cell 2
      have c1_3 := HO1.out.cell 3
      go_enter Try.func81, Try.ntmps81
      go_wp2_with fail
      with_reducible refine (HC.out _).mono ?_
      rintro e' w1 ⟨rfl, hb⟩
      clear c0_0 c0_1 c0_2 c0_3 c0_4 c0_5 c0_6 c0_7 c0_8 c1_0 c1_1 c1_2 c1_3
      replace HO0 := Lib.hid (HO0.out.below hb HO0.out.lt)
      replace HO1 := Lib.hid (HO1.out.below hb HO1.out.lt)
      replace HO2 := Lib.hid (HO2.out.below hb HO2.out.lt)
      replace HB := Lib.hid (HB.out.trans (hb.mono HB.out.size))
      clear hb
      have c0_0 := HO0.out.cell 0
      have c0_1 := HO0.out.cell 1
      have c0_2 := HO0.out.cell 2
      have c0_3 := HO0.out.cell 3
      have c0_4 := HO0.out.cell 4
      have c0_5 := HO0.out.cell 5
      have c0_6 := HO0.out.cell 6
      have c0_7 := HO0.out.cell 7
      have c0_8 := HO0.out.cell 8
      have m0_0 := HO0.out.free 0
      have m0_1 := HO0.out.free 1
      have m0_2 := HO0.out.free 2
      have m0_3 := HO0.out.free 3
      have m0_4 := HO0.out.free 4
      have m0_5 := HO0.out.free 5
      have m0_6 := HO0.out.free 6
      have m0_7 := HO0.out.free 7
      have m0_8 := HO0.out.free 8
      have c1_0 := HO1.out.cell 0
      have c1_1 := HO1.out.cell 1
      have c1_2 := HO1.out.cell 2
      have c1_3 := HO1.out.cell 3
      have c2_0 := HO2.out.cell 0
      have c2_1 := HO2.out.cell 1
      have c2_2 := HO2.out.cell 2
      have c2_3 := HO2.out.cell 3
      have c2_4 := HO2.out.cell 4
      have c2_5 := HO2.out.cell 5
      have c2_6 := HO2.out.cell 6
      have c2_7 := HO2.out.cell 7
      have c2_8 := HO2.out.cell 8
      have m2_0 := HO2.out.free 0
      have m2_1 := HO2.out.free 1
      have m2_2 := HO2.out.free 2
      have m2_3 := HO2.out.free 3
      have m2_4 := HO2.out.free 4
      have m2_5 := HO2.out.free 5
      have m2_6 := HO2.out.free 6
      have m2_7 := HO2.out.free 7
      have m2_8 := HO2.out.free 8
      go_wp2
      clear c0_0 c0_1 c0_2 c0_3 c0_4 c0_5 c0_6 c0_7 c0_8 m0_0 m0_1 m0_2 m0_3 m0_4 m0_5 m0_6 m0_7 m0_8 c1_0 c1_1 c1_2 c1_3 c2_0 c2_1 c2_2 c2_3 c2_4 c2_5 c2_6 c2_7 c2_8 m2_0 m2_1 m2_2 m2_3 m2_4 m2_5 m2_6 m2_7 m2_8
      have hxo := ((((HO0.out.store 0 (.int .i64 x1)).store 1 (.int .i64 x2)).store 2 (.string x3)).store 3 (.bool true))
      simp only [List.setIfInBounds_toArray, List.set_cons_zero, List.set_cons_succ] at hxo
      have HXO := Lib.hid hxo
      clear hxo
      have HXB := Lib.hid (((((HB.out.setCell (p := ⟨w.heap.size, 0, none⟩) (by show w.heap.size ≤ w.heap.size; omega) (.int .i64 x1)).setCell (p := ⟨w.heap.size, 1, none⟩) (by show w.heap.size ≤ w.heap.size; omega) (.int .i64 x2)).setCell (p := ⟨w.heap.size, 2, none⟩) (by show w.heap.size ≤ w.heap.size; omega) (.string x3)).setCell (p := ⟨w.heap.size, 3, none⟩) (by show w.heap.size ≤ w.heap.size; omega) (.bool true)))
      replace HO1 := Lib.hid ((((HO1.out.far (p := ⟨w.heap.size, 0, none⟩) (by show w.heap.size + 1 ≠ w.heap.size; omega) (.int .i64 x1)).far (p := ⟨w.heap.size, 1, none⟩) (by show w.heap.size + 1 ≠ w.heap.size; omega) (.int .i64 x2)).far (p := ⟨w.heap.size, 2, none⟩) (by show w.heap.size + 1 ≠ w.heap.size; omega) (.string x3)).far (p := ⟨w.heap.size, 3, none⟩) (by show w.heap.size + 1 ≠ w.heap.size; omega) (.bool true))
      replace HO2 := Lib.hid ((((HO2.out.far (p := ⟨w.heap.size, 0, none⟩) (by show w.heap.size + 1 + 1 ≠ w.heap.size; omega) (.int .i64 x1)).far (p := ⟨w.heap.size, 1, none⟩) (by show w.heap.size + 1 + 1 ≠ w.heap.size; omega) (.int .i64 x2)).far (p := ⟨w.heap.size, 2, none⟩) (by show w.heap.size + 1 + 1 ≠ w.heap.size; omega) (.string x3)).far (p := ⟨w.heap.size, 3, none⟩) (by show w.heap.size + 1 + 1 ≠ w.heap.size; omega) (.bool true))
      replace HO0 := HXO
      replace HB := HXB
      clear HXO HXB
      have hxo := (((((((((HO2.out.store 0 (.int .i64 x1)).store 1 (.int .i64 x2)).store 2 (.string x3)).store 3 (.bool true)).store 4 (.int .i64 b1)).store 5 (.int .i64 b2)).store 6 (.string b3)).store 7 (.bool hs)).store 8 (.bool im))
      simp only [List.setIfInBounds_toArray, List.set_cons_zero, List.set_cons_succ] at hxo
      have HXO := Lib.hid hxo
      clear hxo
      have HXB := Lib.hid ((((((((((HB.out.setCell (p := ⟨w.heap.size + 1 + 1, 0, none⟩) (by show w.heap.size ≤ w.heap.size + 1 + 1; omega) (.int .i64 x1)).setCell (p := ⟨w.heap.size + 1 + 1, 1, none⟩) (by show w.heap.size ≤ w.heap.size + 1 + 1; omega) (.int .i64 x2)).setCell (p := ⟨w.heap.size + 1 + 1, 2, none⟩) (by show w.heap.size ≤ w.heap.size + 1 + 1; omega) (.string x3)).setCell (p := ⟨w.heap.size + 1 + 1, 3, none⟩) (by show w.heap.size ≤ w.heap.size + 1 + 1; omega) (.bool true)).setCell (p := ⟨w.heap.size + 1 + 1, 4, none⟩) (by show w.heap.size ≤ w.heap.size + 1 + 1; omega) (.int .i64 b1)).setCell (p := ⟨w.heap.size + 1 + 1, 5, none⟩) (by show w.heap.size ≤ w.heap.size + 1 + 1; omega) (.int .i64 b2)).setCell (p := ⟨w.heap.size + 1 + 1, 6, none⟩) (by show w.heap.size ≤ w.heap.size + 1 + 1; omega) (.string b3)).setCell (p := ⟨w.heap.size + 1 + 1, 7, none⟩) (by show w.heap.size ≤ w.heap.size + 1 + 1; omega) (.bool hs)).setCell (p := ⟨w.heap.size + 1 + 1, 8, none⟩) (by show w.heap.size ≤ w.heap.size + 1 + 1; omega) (.bool im)))
      replace HO0 := Lib.hid (((((((((HO0.out.far (p := ⟨w.heap.size + 1 + 1, 0, none⟩) (by show w.heap.size ≠ w.heap.size + 1 + 1; omega) (.int .i64 x1)).far (p := ⟨w.heap.size + 1 + 1, 1, none⟩) (by show w.heap.size ≠ w.heap.size + 1 + 1; omega) (.int .i64 x2)).far (p := ⟨w.heap.size + 1 + 1, 2, none⟩) (by show w.heap.size ≠ w.heap.size + 1 + 1; omega) (.string x3)).far (p := ⟨w.heap.size + 1 + 1, 3, none⟩) (by show w.heap.size ≠ w.heap.size + 1 + 1; omega) (.bool true)).far (p := ⟨w.heap.size + 1 + 1, 4, none⟩) (by show w.heap.size ≠ w.heap.size + 1 + 1; omega) (.int .i64 b1)).far (p := ⟨w.heap.size + 1 + 1, 5, none⟩) (by show w.heap.size ≠ w.heap.size + 1 + 1; omega) (.int .i64 b2)).far (p := ⟨w.heap.size + 1 + 1, 6, none⟩) (by show w.heap.size ≠ w.heap.size + 1 + 1; omega) (.string b3)).far (p := ⟨w.heap.size + 1 + 1, 7, none⟩) (by show w.heap.size ≠ w.heap.size + 1 + 1; omega) (.bool hs)).far (p := ⟨w.heap.size + 1 + 1, 8, none⟩) (by show w.heap.size ≠ w.heap.size + 1 + 1; omega) (.bool im))
      replace HO1 := Lib.hid (((((((((HO1.out.far (p := ⟨w.heap.size + 1 + 1, 0, none⟩) (by show w.heap.size + 1 ≠ w.heap.size + 1 + 1; omega) (.int .i64 x1)).far (p := ⟨w.heap.size + 1 + 1, 1, none⟩) (by show w.heap.size + 1 ≠ w.heap.size + 1 + 1; omega) (.int .i64 x2)).far (p := ⟨w.heap.size + 1 + 1, 2, none⟩) (by show w.heap.size + 1 ≠ w.heap.size + 1 + 1; omega) (.string x3)).far (p := ⟨w.heap.size + 1 + 1, 3, none⟩) (by show w.heap.size + 1 ≠ w.heap.size + 1 + 1; omega) (.bool true)).far (p := ⟨w.heap.size + 1 + 1, 4, none⟩) (by show w.heap.size + 1 ≠ w.heap.size + 1 + 1; omega) (.int .i64 b1)).far (p := ⟨w.heap.size + 1 + 1, 5, none⟩) (by show w.heap.size + 1 ≠ w.heap.size + 1 + 1; omega) (.int .i64 b2)).far (p := ⟨w.heap.size + 1 + 1, 6, none⟩) (by show w.heap.size + 1 ≠ w.heap.size + 1 + 1; omega) (.string b3)).far (p := ⟨w.heap.size + 1 + 1, 7, none⟩) (by show w.heap.size + 1 ≠ w.heap.size + 1 + 1; omega) (.bool hs)).far (p := ⟨w.heap.size + 1 + 1, 8, none⟩) (by show w.heap.size + 1 ≠ w.heap.size + 1 + 1; omega) (.bool im))
      replace HO2 := HXO
      replace HB := HXB
      clear HXO HXB
      (try simp only [Exit.inBlock, Exit.then]); refine bodyPost_ret_by (results_cell_row1 (by rfl) _ _ (w.heap.size + 1 + 1) _ (by rfl) (load_itv HO2.out)) ?_ ?_; (focus rfl); (try dsimp only)
      exact ⟨rfl, HB.out⟩
  · rw [if_neg hc]
    have h1 : ¬ (0 < c) := fun h => hc (.inl h)
    by_cases h0 : c = 0
    · have hs0 : s = false := by cases s; rfl; exact absurd (.inr ⟨h0, rfl⟩) hc
      subst h0 hs0
      clear hc h1
      have HO0 := Lib.hid (show Own (((w.alloc (.cells #[.int .i64 a1, .int .i64 a2, .string a3, .bool ls, .int .i64 b1, .int .i64 b2, .string b3, .bool hs, .bool im] 70)).alloc (.cells #[.int .i64 x1, .int .i64 x2, .string x3, .bool false] 68)).alloc (.cells #[.int .i64 0, .int .i64 0, .string ⟨#[]⟩, .bool false, .int .i64 0, .int .i64 0, .string ⟨#[]⟩, .bool false, .bool false] 70)) (w.heap.size) 70 #[.int .i64 a1, .int .i64 a2, .string a3, .bool ls, .int .i64 b1, .int .i64 b2, .string b3, .bool hs, .bool im] from by have h := Own.new w 70 #[.int .i64 a1, .int .i64 a2, .string a3, .bool ls, .int .i64 b1, .int .i64 b2, .string b3, .bool hs, .bool im]; (try simp only [World.size_alloc] at h); exact ((h.alloc (.cells #[.int .i64 x1, .int .i64 x2, .string x3, .bool false] 68)).alloc (.cells #[.int .i64 0, .int .i64 0, .string ⟨#[]⟩, .bool false, .int .i64 0, .int .i64 0, .string ⟨#[]⟩, .bool false, .bool false] 70)))
      have HO1 := Lib.hid (show Own (((w.alloc (.cells #[.int .i64 a1, .int .i64 a2, .string a3, .bool ls, .int .i64 b1, .int .i64 b2, .string b3, .bool hs, .bool im] 70)).alloc (.cells #[.int .i64 x1, .int .i64 x2, .string x3, .bool false] 68)).alloc (.cells #[.int .i64 0, .int .i64 0, .string ⟨#[]⟩, .bool false, .int .i64 0, .int .i64 0, .string ⟨#[]⟩, .bool false, .bool false] 70)) (w.heap.size + 1) 68 #[.int .i64 x1, .int .i64 x2, .string x3, .bool false] from by have h := Own.new (w.alloc (.cells #[.int .i64 a1, .int .i64 a2, .string a3, .bool ls, .int .i64 b1, .int .i64 b2, .string b3, .bool hs, .bool im] 70)) 68 #[.int .i64 x1, .int .i64 x2, .string x3, .bool false]; (try simp only [World.size_alloc] at h); exact (h.alloc (.cells #[.int .i64 0, .int .i64 0, .string ⟨#[]⟩, .bool false, .int .i64 0, .int .i64 0, .string ⟨#[]⟩, .bool false, .bool false] 70)))
      have HO2 := Lib.hid (show Own (((w.alloc (.cells #[.int .i64 a1, .int .i64 a2, .string a3, .bool ls, .int .i64 b1, .int .i64 b2, .string b3, .bool hs, .bool im] 70)).alloc (.cells #[.int .i64 x1, .int .i64 x2, .string x3, .bool false] 68)).alloc (.cells #[.int .i64 0, .int .i64 0, .string ⟨#[]⟩, .bool false, .int .i64 0, .int .i64 0, .string ⟨#[]⟩, .bool false, .bool false] 70)) (w.heap.size + 1 + 1) 70 #[.int .i64 0, .int .i64 0, .string ⟨#[]⟩, .bool false, .int .i64 0, .int .i64 0, .string ⟨#[]⟩, .bool false, .bool false] from by have h := Own.new ((w.alloc (.cells #[.int .i64 a1, .int .i64 a2, .string a3, .bool ls, .int .i64 b1, .int .i64 b2, .string b3, .bool hs, .bool im] 70)).alloc (.cells #[.int .i64 x1, .int .i64 x2, .string x3, .bool false] 68)) 70 #[.int .i64 0, .int .i64 0, .string ⟨#[]⟩, .bool false, .int .i64 0, .int .i64 0, .string ⟨#[]⟩, .bool false, .bool false]; (try simp only [World.size_alloc] at h); exact h)
      have HB := Lib.hid (show Below w.heap.size w (((w.alloc (.cells #[.int .i64 a1, .int .i64 a2, .string a3, .bool ls, .int .i64 b1, .int .i64 b2, .string b3, .bool hs, .bool im] 70)).alloc (.cells #[.int .i64 x1, .int .i64 x2, .string x3, .bool false] 68)).alloc (.cells #[.int .i64 0, .int .i64 0, .string ⟨#[]⟩, .bool false, .int .i64 0, .int .i64 0, .string ⟨#[]⟩, .bool false, .bool false] 70)) from ((bel_mk w (.cells #[.int .i64 a1, .int .i64 a2, .string a3, .bool ls, .int .i64 b1, .int .i64 b2, .string b3, .bool hs, .bool im] 70)).trans ((bel_mk (w.alloc (.cells #[.int .i64 a1, .int .i64 a2, .string a3, .bool ls, .int .i64 b1, .int .i64 b2, .string b3, .bool hs, .bool im] 70)) (.cells #[.int .i64 x1, .int .i64 x2, .string x3, .bool false] 68)).mono (by simp only [World.size_alloc]; omega))).trans ((bel_mk ((w.alloc (.cells #[.int .i64 a1, .int .i64 a2, .string a3, .bool ls, .int .i64 b1, .int .i64 b2, .string b3, .bool hs, .bool im] 70)).alloc (.cells #[.int .i64 x1, .int .i64 x2, .string x3, .bool false] 68)) (.cells #[.int .i64 0, .int .i64 0, .string ⟨#[]⟩, .bool false, .int .i64 0, .int .i64 0, .string ⟨#[]⟩, .bool false, .bool false] 70)).mono (by simp only [World.size_alloc]; omega)))
      have c0_0 := HO0.out.cell 0
      have c0_1 := HO0.out.cell 1
      have c0_2 := HO0.out.cell 2
      have c0_3 := HO0.out.cell 3
      have c0_4 := HO0.out.cell 4
      have c0_5 := HO0.out.cell 5
      have c0_6 := HO0.out.cell 6
      have c0_7 := HO0.out.cell 7
      have c0_8 := HO0.out.cell 8
      have c1_0 := HO1.out.cell 0
      have c1_1 := HO1.out.cell 1
      have c1_2 := HO1.out.cell 2
      have c1_3 := HO1.out.cell 3
      go_enter Try.func81, Try.ntmps81
      go_wp2_with fail
      with_reducible refine (HC.out _).mono ?_
      rintro e' w1 ⟨rfl, hb⟩
      clear c0_0 c0_1 c0_2 c0_3 c0_4 c0_5 c0_6 c0_7 c0_8 c1_0 c1_1 c1_2 c1_3
      replace HO0 := Lib.hid (HO0.out.below hb HO0.out.lt)
      replace HO1 := Lib.hid (HO1.out.below hb HO1.out.lt)
      replace HO2 := Lib.hid (HO2.out.below hb HO2.out.lt)
      replace HB := Lib.hid (HB.out.trans (hb.mono HB.out.size))
      clear hb
      have c0_0 := HO0.out.cell 0
      have c0_1 := HO0.out.cell 1
      have c0_2 := HO0.out.cell 2
      have c0_3 := HO0.out.cell 3
      have c0_4 := HO0.out.cell 4
      have c0_5 := HO0.out.cell 5
      have c0_6 := HO0.out.cell 6
      have c0_7 := HO0.out.cell 7
      have c0_8 := HO0.out.cell 8
      have m0_0 := HO0.out.free 0
      have m0_1 := HO0.out.free 1
      have m0_2 := HO0.out.free 2
      have m0_3 := HO0.out.free 3
      have m0_4 := HO0.out.free 4
      have m0_5 := HO0.out.free 5
      have m0_6 := HO0.out.free 6
      have m0_7 := HO0.out.free 7
      have m0_8 := HO0.out.free 8
      have c1_0 := HO1.out.cell 0
      have c1_1 := HO1.out.cell 1
      have c1_2 := HO1.out.cell 2
      have c1_3 := HO1.out.cell 3
      have c2_0 := HO2.out.cell 0
      have c2_1 := HO2.out.cell 1
      have c2_2 := HO2.out.cell 2
      have c2_3 := HO2.out.cell 3
      have c2_4 := HO2.out.cell 4
      have c2_5 := HO2.out.cell 5
      have c2_6 := HO2.out.cell 6
      have c2_7 := HO2.out.cell 7
      have c2_8 := HO2.out.cell 8
      have m2_0 := HO2.out.free 0
      have m2_1 := HO2.out.free 1
      have m2_2 := HO2.out.free 2
      have m2_3 := HO2.out.free 3
      have m2_4 := HO2.out.free 4
      have m2_5 := HO2.out.free 5
      have m2_6 := HO2.out.free 6
      have m2_7 := HO2.out.free 7
      have m2_8 := HO2.out.free 8
      go_wp2
      clear c0_0 c0_1 c0_2 c0_3 c0_4 c0_5 c0_6 c0_7 c0_8 m0_0 m0_1 m0_2 m0_3 m0_4 m0_5 m0_6 m0_7 m0_8 c1_0 c1_1 c1_2 c1_3 c2_0 c2_1 c2_2 c2_3 c2_4 c2_5 c2_6 c2_7 c2_8 m2_0 m2_1 m2_2 m2_3 m2_4 m2_5 m2_6 m2_7 m2_8
      have hxo := (((((((((HO2.out.store 0 (.int .i64 a1)).store 1 (.int .i64 a2)).store 2 (.string a3)).store 3 (.bool ls)).store 4 (.int .i64 b1)).store 5 (.int .i64 b2)).store 6 (.string b3)).store 7 (.bool hs)).store 8 (.bool im))
      simp only [List.setIfInBounds_toArray, List.set_cons_zero, List.set_cons_succ] at hxo
      have HXO := Lib.hid hxo
      clear hxo
      have HXB := Lib.hid ((((((((((HB.out.setCell (p := ⟨w.heap.size + 1 + 1, 0, none⟩) (by show w.heap.size ≤ w.heap.size + 1 + 1; omega) (.int .i64 a1)).setCell (p := ⟨w.heap.size + 1 + 1, 1, none⟩) (by show w.heap.size ≤ w.heap.size + 1 + 1; omega) (.int .i64 a2)).setCell (p := ⟨w.heap.size + 1 + 1, 2, none⟩) (by show w.heap.size ≤ w.heap.size + 1 + 1; omega) (.string a3)).setCell (p := ⟨w.heap.size + 1 + 1, 3, none⟩) (by show w.heap.size ≤ w.heap.size + 1 + 1; omega) (.bool ls)).setCell (p := ⟨w.heap.size + 1 + 1, 4, none⟩) (by show w.heap.size ≤ w.heap.size + 1 + 1; omega) (.int .i64 b1)).setCell (p := ⟨w.heap.size + 1 + 1, 5, none⟩) (by show w.heap.size ≤ w.heap.size + 1 + 1; omega) (.int .i64 b2)).setCell (p := ⟨w.heap.size + 1 + 1, 6, none⟩) (by show w.heap.size ≤ w.heap.size + 1 + 1; omega) (.string b3)).setCell (p := ⟨w.heap.size + 1 + 1, 7, none⟩) (by show w.heap.size ≤ w.heap.size + 1 + 1; omega) (.bool hs)).setCell (p := ⟨w.heap.size + 1 + 1, 8, none⟩) (by show w.heap.size ≤ w.heap.size + 1 + 1; omega) (.bool im)))
      replace HO0 := Lib.hid (((((((((HO0.out.far (p := ⟨w.heap.size + 1 + 1, 0, none⟩) (by show w.heap.size ≠ w.heap.size + 1 + 1; omega) (.int .i64 a1)).far (p := ⟨w.heap.size + 1 + 1, 1, none⟩) (by show w.heap.size ≠ w.heap.size + 1 + 1; omega) (.int .i64 a2)).far (p := ⟨w.heap.size + 1 + 1, 2, none⟩) (by show w.heap.size ≠ w.heap.size + 1 + 1; omega) (.string a3)).far (p := ⟨w.heap.size + 1 + 1, 3, none⟩) (by show w.heap.size ≠ w.heap.size + 1 + 1; omega) (.bool ls)).far (p := ⟨w.heap.size + 1 + 1, 4, none⟩) (by show w.heap.size ≠ w.heap.size + 1 + 1; omega) (.int .i64 b1)).far (p := ⟨w.heap.size + 1 + 1, 5, none⟩) (by show w.heap.size ≠ w.heap.size + 1 + 1; omega) (.int .i64 b2)).far (p := ⟨w.heap.size + 1 + 1, 6, none⟩) (by show w.heap.size ≠ w.heap.size + 1 + 1; omega) (.string b3)).far (p := ⟨w.heap.size + 1 + 1, 7, none⟩) (by show w.heap.size ≠ w.heap.size + 1 + 1; omega) (.bool hs)).far (p := ⟨w.heap.size + 1 + 1, 8, none⟩) (by show w.heap.size ≠ w.heap.size + 1 + 1; omega) (.bool im))
      replace HO1 := Lib.hid (((((((((HO1.out.far (p := ⟨w.heap.size + 1 + 1, 0, none⟩) (by show w.heap.size + 1 ≠ w.heap.size + 1 + 1; omega) (.int .i64 a1)).far (p := ⟨w.heap.size + 1 + 1, 1, none⟩) (by show w.heap.size + 1 ≠ w.heap.size + 1 + 1; omega) (.int .i64 a2)).far (p := ⟨w.heap.size + 1 + 1, 2, none⟩) (by show w.heap.size + 1 ≠ w.heap.size + 1 + 1; omega) (.string a3)).far (p := ⟨w.heap.size + 1 + 1, 3, none⟩) (by show w.heap.size + 1 ≠ w.heap.size + 1 + 1; omega) (.bool ls)).far (p := ⟨w.heap.size + 1 + 1, 4, none⟩) (by show w.heap.size + 1 ≠ w.heap.size + 1 + 1; omega) (.int .i64 b1)).far (p := ⟨w.heap.size + 1 + 1, 5, none⟩) (by show w.heap.size + 1 ≠ w.heap.size + 1 + 1; omega) (.int .i64 b2)).far (p := ⟨w.heap.size + 1 + 1, 6, none⟩) (by show w.heap.size + 1 ≠ w.heap.size + 1 + 1; omega) (.string b3)).far (p := ⟨w.heap.size + 1 + 1, 7, none⟩) (by show w.heap.size + 1 ≠ w.heap.size + 1 + 1; omega) (.bool hs)).far (p := ⟨w.heap.size + 1 + 1, 8, none⟩) (by show w.heap.size + 1 ≠ w.heap.size + 1 + 1; omega) (.bool im))
      replace HO2 := HXO
      replace HB := HXB
      clear HXO HXB
      (try simp only [Exit.inBlock, Exit.then]); refine bodyPost_ret_by (results_cell_row1 (by rfl) _ _ (w.heap.size + 1 + 1) _ (by rfl) (load_itv HO2.out)) ?_ ?_; (focus rfl); (try dsimp only)
      exact ⟨rfl, HB.out⟩
    · have h0b : (c == 0) = false := by rw [beq_eq_false_iff_ne]; exact h0
      clear hc
      have HO0 := Lib.hid (show Own (((w.alloc (.cells #[.int .i64 a1, .int .i64 a2, .string a3, .bool ls, .int .i64 b1, .int .i64 b2, .string b3, .bool hs, .bool im] 70)).alloc (.cells #[.int .i64 x1, .int .i64 x2, .string x3, .bool s] 68)).alloc (.cells #[.int .i64 0, .int .i64 0, .string ⟨#[]⟩, .bool false, .int .i64 0, .int .i64 0, .string ⟨#[]⟩, .bool false, .bool false] 70)) (w.heap.size) 70 #[.int .i64 a1, .int .i64 a2, .string a3, .bool ls, .int .i64 b1, .int .i64 b2, .string b3, .bool hs, .bool im] from by have h := Own.new w 70 #[.int .i64 a1, .int .i64 a2, .string a3, .bool ls, .int .i64 b1, .int .i64 b2, .string b3, .bool hs, .bool im]; (try simp only [World.size_alloc] at h); exact ((h.alloc (.cells #[.int .i64 x1, .int .i64 x2, .string x3, .bool s] 68)).alloc (.cells #[.int .i64 0, .int .i64 0, .string ⟨#[]⟩, .bool false, .int .i64 0, .int .i64 0, .string ⟨#[]⟩, .bool false, .bool false] 70)))
      have HO1 := Lib.hid (show Own (((w.alloc (.cells #[.int .i64 a1, .int .i64 a2, .string a3, .bool ls, .int .i64 b1, .int .i64 b2, .string b3, .bool hs, .bool im] 70)).alloc (.cells #[.int .i64 x1, .int .i64 x2, .string x3, .bool s] 68)).alloc (.cells #[.int .i64 0, .int .i64 0, .string ⟨#[]⟩, .bool false, .int .i64 0, .int .i64 0, .string ⟨#[]⟩, .bool false, .bool false] 70)) (w.heap.size + 1) 68 #[.int .i64 x1, .int .i64 x2, .string x3, .bool s] from by have h := Own.new (w.alloc (.cells #[.int .i64 a1, .int .i64 a2, .string a3, .bool ls, .int .i64 b1, .int .i64 b2, .string b3, .bool hs, .bool im] 70)) 68 #[.int .i64 x1, .int .i64 x2, .string x3, .bool s]; (try simp only [World.size_alloc] at h); exact (h.alloc (.cells #[.int .i64 0, .int .i64 0, .string ⟨#[]⟩, .bool false, .int .i64 0, .int .i64 0, .string ⟨#[]⟩, .bool false, .bool false] 70)))
      have HO2 := Lib.hid (show Own (((w.alloc (.cells #[.int .i64 a1, .int .i64 a2, .string a3, .bool ls, .int .i64 b1, .int .i64 b2, .string b3, .bool hs, .bool im] 70)).alloc (.cells #[.int .i64 x1, .int .i64 x2, .string x3, .bool s] 68)).alloc (.cells #[.int .i64 0, .int .i64 0, .string ⟨#[]⟩, .bool false, .int .i64 0, .int .i64 0, .string ⟨#[]⟩, .bool false, .bool false] 70)) (w.heap.size + 1 + 1) 70 #[.int .i64 0, .int .i64 0, .string ⟨#[]⟩, .bool false, .int .i64 0, .int .i64 0, .string ⟨#[]⟩, .bool false, .bool false] from by have h := Own.new ((w.alloc (.cells #[.int .i64 a1, .int .i64 a2, .string a3, .bool ls, .int .i64 b1, .int .i64 b2, .string b3, .bool hs, .bool im] 70)).alloc (.cells #[.int .i64 x1, .int .i64 x2, .string x3, .bool s] 68)) 70 #[.int .i64 0, .int .i64 0, .string ⟨#[]⟩, .bool false, .int .i64 0, .int .i64 0, .string ⟨#[]⟩, .bool false, .bool false]; (try simp only [World.size_alloc] at h); exact h)
      have HB := Lib.hid (show Below w.heap.size w (((w.alloc (.cells #[.int .i64 a1, .int .i64 a2, .string a3, .bool ls, .int .i64 b1, .int .i64 b2, .string b3, .bool hs, .bool im] 70)).alloc (.cells #[.int .i64 x1, .int .i64 x2, .string x3, .bool s] 68)).alloc (.cells #[.int .i64 0, .int .i64 0, .string ⟨#[]⟩, .bool false, .int .i64 0, .int .i64 0, .string ⟨#[]⟩, .bool false, .bool false] 70)) from ((bel_mk w (.cells #[.int .i64 a1, .int .i64 a2, .string a3, .bool ls, .int .i64 b1, .int .i64 b2, .string b3, .bool hs, .bool im] 70)).trans ((bel_mk (w.alloc (.cells #[.int .i64 a1, .int .i64 a2, .string a3, .bool ls, .int .i64 b1, .int .i64 b2, .string b3, .bool hs, .bool im] 70)) (.cells #[.int .i64 x1, .int .i64 x2, .string x3, .bool s] 68)).mono (by simp only [World.size_alloc]; omega))).trans ((bel_mk ((w.alloc (.cells #[.int .i64 a1, .int .i64 a2, .string a3, .bool ls, .int .i64 b1, .int .i64 b2, .string b3, .bool hs, .bool im] 70)).alloc (.cells #[.int .i64 x1, .int .i64 x2, .string x3, .bool s] 68)) (.cells #[.int .i64 0, .int .i64 0, .string ⟨#[]⟩, .bool false, .int .i64 0, .int .i64 0, .string ⟨#[]⟩, .bool false, .bool false] 70)).mono (by simp only [World.size_alloc]; omega)))
      have c0_0 := HO0.out.cell 0
      have c0_1 := HO0.out.cell 1
      have c0_2 := HO0.out.cell 2
      have c0_3 := HO0.out.cell 3
      have c0_4 := HO0.out.cell 4
      have c0_5 := HO0.out.cell 5
      have c0_6 := HO0.out.cell 6
      have c0_7 := HO0.out.cell 7
      have c0_8 := HO0.out.cell 8
      have c1_0 := HO1.out.cell 0
      have c1_1 := HO1.out.cell 1
      have c1_2 := HO1.out.cell 2
      have c1_3 := HO1.out.cell 3
      go_enter Try.func81, Try.ntmps81
      go_wp2_with fail
      with_reducible refine (HC.out _).mono ?_
      rintro e' w1 ⟨rfl, hb⟩
      clear c0_0 c0_1 c0_2 c0_3 c0_4 c0_5 c0_6 c0_7 c0_8 c1_0 c1_1 c1_2 c1_3
      replace HO0 := Lib.hid (HO0.out.below hb HO0.out.lt)
      replace HO1 := Lib.hid (HO1.out.below hb HO1.out.lt)
      replace HO2 := Lib.hid (HO2.out.below hb HO2.out.lt)
      replace HB := Lib.hid (HB.out.trans (hb.mono HB.out.size))
      clear hb
      have c0_0 := HO0.out.cell 0
      have c0_1 := HO0.out.cell 1
      have c0_2 := HO0.out.cell 2
      have c0_3 := HO0.out.cell 3
      have c0_4 := HO0.out.cell 4
      have c0_5 := HO0.out.cell 5
      have c0_6 := HO0.out.cell 6
      have c0_7 := HO0.out.cell 7
      have c0_8 := HO0.out.cell 8
      have m0_0 := HO0.out.free 0
      have m0_1 := HO0.out.free 1
      have m0_2 := HO0.out.free 2
      have m0_3 := HO0.out.free 3
      have m0_4 := HO0.out.free 4
      have m0_5 := HO0.out.free 5
      have m0_6 := HO0.out.free 6
      have m0_7 := HO0.out.free 7
      have m0_8 := HO0.out.free 8
      have c1_0 := HO1.out.cell 0
      have c1_1 := HO1.out.cell 1
      have c1_2 := HO1.out.cell 2
      have c1_3 := HO1.out.cell 3
      have c2_0 := HO2.out.cell 0
      have c2_1 := HO2.out.cell 1
      have c2_2 := HO2.out.cell 2
      have c2_3 := HO2.out.cell 3
      have c2_4 := HO2.out.cell 4
      have c2_5 := HO2.out.cell 5
      have c2_6 := HO2.out.cell 6
      have c2_7 := HO2.out.cell 7
      have c2_8 := HO2.out.cell 8
      have m2_0 := HO2.out.free 0
      have m2_1 := HO2.out.free 1
      have m2_2 := HO2.out.free 2
      have m2_3 := HO2.out.free 3
      have m2_4 := HO2.out.free 4
      have m2_5 := HO2.out.free 5
      have m2_6 := HO2.out.free 6
      have m2_7 := HO2.out.free 7
      have m2_8 := HO2.out.free 8
      go_wp2
      clear c0_0 c0_1 c0_2 c0_3 c0_4 c0_5 c0_6 c0_7 c0_8 m0_0 m0_1 m0_2 m0_3 m0_4 m0_5 m0_6 m0_7 m0_8 c1_0 c1_1 c1_2 c1_3 c2_0 c2_1 c2_2 c2_3 c2_4 c2_5 c2_6 c2_7 c2_8 m2_0 m2_1 m2_2 m2_3 m2_4 m2_5 m2_6 m2_7 m2_8
      have hxo := (((((((((HO2.out.store 0 (.int .i64 a1)).store 1 (.int .i64 a2)).store 2 (.string a3)).store 3 (.bool ls)).store 4 (.int .i64 b1)).store 5 (.int .i64 b2)).store 6 (.string b3)).store 7 (.bool hs)).store 8 (.bool im))
      simp only [List.setIfInBounds_toArray, List.set_cons_zero, List.set_cons_succ] at hxo
      have HXO := Lib.hid hxo
      clear hxo
      have HXB := Lib.hid ((((((((((HB.out.setCell (p := ⟨w.heap.size + 1 + 1, 0, none⟩) (by show w.heap.size ≤ w.heap.size + 1 + 1; omega) (.int .i64 a1)).setCell (p := ⟨w.heap.size + 1 + 1, 1, none⟩) (by show w.heap.size ≤ w.heap.size + 1 + 1; omega) (.int .i64 a2)).setCell (p := ⟨w.heap.size + 1 + 1, 2, none⟩) (by show w.heap.size ≤ w.heap.size + 1 + 1; omega) (.string a3)).setCell (p := ⟨w.heap.size + 1 + 1, 3, none⟩) (by show w.heap.size ≤ w.heap.size + 1 + 1; omega) (.bool ls)).setCell (p := ⟨w.heap.size + 1 + 1, 4, none⟩) (by show w.heap.size ≤ w.heap.size + 1 + 1; omega) (.int .i64 b1)).setCell (p := ⟨w.heap.size + 1 + 1, 5, none⟩) (by show w.heap.size ≤ w.heap.size + 1 + 1; omega) (.int .i64 b2)).setCell (p := ⟨w.heap.size + 1 + 1, 6, none⟩) (by show w.heap.size ≤ w.heap.size + 1 + 1; omega) (.string b3)).setCell (p := ⟨w.heap.size + 1 + 1, 7, none⟩) (by show w.heap.size ≤ w.heap.size + 1 + 1; omega) (.bool hs)).setCell (p := ⟨w.heap.size + 1 + 1, 8, none⟩) (by show w.heap.size ≤ w.heap.size + 1 + 1; omega) (.bool im)))
      replace HO0 := Lib.hid (((((((((HO0.out.far (p := ⟨w.heap.size + 1 + 1, 0, none⟩) (by show w.heap.size ≠ w.heap.size + 1 + 1; omega) (.int .i64 a1)).far (p := ⟨w.heap.size + 1 + 1, 1, none⟩) (by show w.heap.size ≠ w.heap.size + 1 + 1; omega) (.int .i64 a2)).far (p := ⟨w.heap.size + 1 + 1, 2, none⟩) (by show w.heap.size ≠ w.heap.size + 1 + 1; omega) (.string a3)).far (p := ⟨w.heap.size + 1 + 1, 3, none⟩) (by show w.heap.size ≠ w.heap.size + 1 + 1; omega) (.bool ls)).far (p := ⟨w.heap.size + 1 + 1, 4, none⟩) (by show w.heap.size ≠ w.heap.size + 1 + 1; omega) (.int .i64 b1)).far (p := ⟨w.heap.size + 1 + 1, 5, none⟩) (by show w.heap.size ≠ w.heap.size + 1 + 1; omega) (.int .i64 b2)).far (p := ⟨w.heap.size + 1 + 1, 6, none⟩) (by show w.heap.size ≠ w.heap.size + 1 + 1; omega) (.string b3)).far (p := ⟨w.heap.size + 1 + 1, 7, none⟩) (by show w.heap.size ≠ w.heap.size + 1 + 1; omega) (.bool hs)).far (p := ⟨w.heap.size + 1 + 1, 8, none⟩) (by show w.heap.size ≠ w.heap.size + 1 + 1; omega) (.bool im))
      replace HO1 := Lib.hid (((((((((HO1.out.far (p := ⟨w.heap.size + 1 + 1, 0, none⟩) (by show w.heap.size + 1 ≠ w.heap.size + 1 + 1; omega) (.int .i64 a1)).far (p := ⟨w.heap.size + 1 + 1, 1, none⟩) (by show w.heap.size + 1 ≠ w.heap.size + 1 + 1; omega) (.int .i64 a2)).far (p := ⟨w.heap.size + 1 + 1, 2, none⟩) (by show w.heap.size + 1 ≠ w.heap.size + 1 + 1; omega) (.string a3)).far (p := ⟨w.heap.size + 1 + 1, 3, none⟩) (by show w.heap.size + 1 ≠ w.heap.size + 1 + 1; omega) (.bool ls)).far (p := ⟨w.heap.size + 1 + 1, 4, none⟩) (by show w.heap.size + 1 ≠ w.heap.size + 1 + 1; omega) (.int .i64 b1)).far (p := ⟨w.heap.size + 1 + 1, 5, none⟩) (by show w.heap.size + 1 ≠ w.heap.size + 1 + 1; omega) (.int .i64 b2)).far (p := ⟨w.heap.size + 1 + 1, 6, none⟩) (by show w.heap.size + 1 ≠ w.heap.size + 1 + 1; omega) (.string b3)).far (p := ⟨w.heap.size + 1 + 1, 7, none⟩) (by show w.heap.size + 1 ≠ w.heap.size + 1 + 1; omega) (.bool hs)).far (p := ⟨w.heap.size + 1 + 1, 8, none⟩) (by show w.heap.size + 1 ≠ w.heap.size + 1 + 1; omega) (.bool im))
      replace HO2 := HXO
      replace HB := HXB
      clear HXO HXB
      (try simp only [Exit.inBlock, Exit.then]); refine bodyPost_ret_by (results_cell_row1 (by rfl) _ _ (w.heap.size + 1 + 1) _ (by rfl) (load_itv HO2.out)) ?_ ?_; (focus rfl); (try dsimp only)
      exact ⟨rfl, HB.out⟩
set_option maxRecDepth 100000 in
set_option maxHeartbeats 6400000 in
theorem pBlw_any (i : Itv) (b : Vl) (s : Bool) (w : World) : Calls Try.prog 82 #[itvV i, bndV b s] w fun e w' => e = .returned (itvV (blwI i b s)) ∧ Below w.heap.size w w' := by
  have HC := Lib.hid (fun W => pCmp_any b i.hi W)
  unfold blwI
  generalize cmpP b i.hi = c at *
  obtain ⟨⟨a1, a2, a3⟩, ls, ⟨b1, b2, b3⟩, hs, im⟩ := i
  obtain ⟨x1, x2, x3⟩ := b
  unfold valV at *
  unfold itvV bndV
  dsimp only at *
  by_cases hc : c < 0 ∨ c = 0 ∧ s = true
  · rw [if_pos hc]
    rcases hc with hc | ⟨rfl, rfl⟩
    · have HO0 := Lib.hid (show Own (((w.alloc (.cells #[.int .i64 a1, .int .i64 a2, .string a3, .bool ls, .int .i64 b1, .int .i64 b2, .string b3, .bool hs, .bool im] 70)).alloc (.cells #[.int .i64 x1, .int .i64 x2, .string x3, .bool s] 68)).alloc (.cells #[.int .i64 0, .int .i64 0, .string ⟨#[]⟩, .bool false, .int .i64 0, .int .i64 0, .string ⟨#[]⟩, .bool false, .bool false] 70)) (w.heap.size) 70 #[.int .i64 a1, .int .i64 a2, .string a3, .bool ls, .int .i64 b1, .int .i64 b2, .string b3, .bool hs, .bool im] from by have h := Own.new w 70 #[.int .i64 a1, .int .i64 a2, .string a3, .bool ls, .int .i64 b1, .int .i64 b2, .string b3, .bool hs, .bool im]; (try simp only [World.size_alloc] at h); exact ((h.alloc (.cells #[.int .i64 x1, .int .i64 x2, .string x3, .bool s] 68)).alloc (.cells #[.int .i64 0, .int .i64 0, .string ⟨#[]⟩, .bool false, .int .i64 0, .int .i64 0, .string ⟨#[]⟩, .bool false, .bool false] 70)))
      have HO1 := Lib.hid (show Own (((w.alloc (.cells #[.int .i64 a1, .int .i64 a2, .string a3, .bool ls, .int .i64 b1, .int .i64 b2, .string b3, .bool hs, .bool im] 70)).alloc (.cells #[.int .i64 x1, .int .i64 x2, .string x3, .bool s] 68)).alloc (.cells #[.int .i64 0, .int .i64 0, .string ⟨#[]⟩, .bool false, .int .i64 0, .int .i64 0, .string ⟨#[]⟩, .bool false, .bool false] 70)) (w.heap.size + 1) 68 #[.int .i64 x1, .int .i64 x2, .string x3, .bool s] from by have h := Own.new (w.alloc (.cells #[.int .i64 a1, .int .i64 a2, .string a3, .bool ls, .int .i64 b1, .int .i64 b2, .string b3, .bool hs, .bool im] 70)) 68 #[.int .i64 x1, .int .i64 x2, .string x3, .bool s]; (try simp only [World.size_alloc] at h); exact (h.alloc (.cells #[.int .i64 0, .int .i64 0, .string ⟨#[]⟩, .bool false, .int .i64 0, .int .i64 0, .string ⟨#[]⟩, .bool false, .bool false] 70)))
      have HO2 := Lib.hid (show Own (((w.alloc (.cells #[.int .i64 a1, .int .i64 a2, .string a3, .bool ls, .int .i64 b1, .int .i64 b2, .string b3, .bool hs, .bool im] 70)).alloc (.cells #[.int .i64 x1, .int .i64 x2, .string x3, .bool s] 68)).alloc (.cells #[.int .i64 0, .int .i64 0, .string ⟨#[]⟩, .bool false, .int .i64 0, .int .i64 0, .string ⟨#[]⟩, .bool false, .bool false] 70)) (w.heap.size + 1 + 1) 70 #[.int .i64 0, .int .i64 0, .string ⟨#[]⟩, .bool false, .int .i64 0, .int .i64 0, .string ⟨#[]⟩, .bool false, .bool false] from by have h := Own.new ((w.alloc (.cells #[.int .i64 a1, .int .i64 a2, .string a3, .bool ls, .int .i64 b1, .int .i64 b2, .string b3, .bool hs, .bool im] 70)).alloc (.cells #[.int .i64 x1, .int .i64 x2, .string x3, .bool s] 68)) 70 #[.int .i64 0, .int .i64 0, .string ⟨#[]⟩, .bool false, .int .i64 0, .int .i64 0, .string ⟨#[]⟩, .bool false, .bool false]; (try simp only [World.size_alloc] at h); exact h)
      have HB := Lib.hid (show Below w.heap.size w (((w.alloc (.cells #[.int .i64 a1, .int .i64 a2, .string a3, .bool ls, .int .i64 b1, .int .i64 b2, .string b3, .bool hs, .bool im] 70)).alloc (.cells #[.int .i64 x1, .int .i64 x2, .string x3, .bool s] 68)).alloc (.cells #[.int .i64 0, .int .i64 0, .string ⟨#[]⟩, .bool false, .int .i64 0, .int .i64 0, .string ⟨#[]⟩, .bool false, .bool false] 70)) from ((bel_mk w (.cells #[.int .i64 a1, .int .i64 a2, .string a3, .bool ls, .int .i64 b1, .int .i64 b2, .string b3, .bool hs, .bool im] 70)).trans ((bel_mk (w.alloc (.cells #[.int .i64 a1, .int .i64 a2, .string a3, .bool ls, .int .i64 b1, .int .i64 b2, .string b3, .bool hs, .bool im] 70)) (.cells #[.int .i64 x1, .int .i64 x2, .string x3, .bool s] 68)).mono (by simp only [World.size_alloc]; omega))).trans ((bel_mk ((w.alloc (.cells #[.int .i64 a1, .int .i64 a2, .string a3, .bool ls, .int .i64 b1, .int .i64 b2, .string b3, .bool hs, .bool im] 70)).alloc (.cells #[.int .i64 x1, .int .i64 x2, .string x3, .bool s] 68)) (.cells #[.int .i64 0, .int .i64 0, .string ⟨#[]⟩, .bool false, .int .i64 0, .int .i64 0, .string ⟨#[]⟩, .bool false, .bool false] 70)).mono (by simp only [World.size_alloc]; omega)))
      have c0_0 := HO0.out.cell 0
      have c0_1 := HO0.out.cell 1
      have c0_2 := HO0.out.cell 2
      have c0_3 := HO0.out.cell 3
      have c0_4 := HO0.out.cell 4
      have c0_5 := HO0.out.cell 5
      have c0_6 := HO0.out.cell 6
      have c0_7 := HO0.out.cell 7
      have c0_8 := HO0.out.cell 8
      have c1_0 := HO1.out.cell 0
      have c1_1 := HO1.out.cell 1
      have c1_2 := HO1.out.cell 2
      have c1_3 := HO1.out.cell 3
      go_enter Try.func82, Try.ntmps82
      go_wp2_with fail
      with_reducible refine (HC.out _).mono ?_
      rintro e' w1 ⟨rfl, hb⟩
      clear c0_0 c0_1 c0_2 c0_3 c0_4 c0_5 c0_6 c0_7 c0_8 c1_0 c1_1 c1_2 c1_3
      replace HO0 := Lib.hid (HO0.out.below hb HO0.out.lt)
      replace HO1 := Lib.hid (HO1.out.below hb HO1.out.lt)
      replace HO2 := Lib.hid (HO2.out.below hb HO2.out.lt)
      replace HB := Lib.hid (HB.out.trans (hb.mono HB.out.size))
      clear hb
      have c0_0 := HO0.out.cell 0
      have c0_1 := HO0.out.cell 1
      have c0_2 := HO0.out.cell 2
      have c0_3 := HO0.out.cell 3
      have c0_4 := HO0.out.cell 4
      have c0_5 := HO0.out.cell 5
      have c0_6 := HO0.out.cell 6
      have c0_7 := HO0.out.cell 7
      have c0_8 := HO0.out.cell 8
      have m0_0 := HO0.out.free 0
      have m0_1 := HO0.out.free 1
      have m0_2 := HO0.out.free 2
      have m0_3 := HO0.out.free 3
      have m0_4 := HO0.out.free 4
      have m0_5 := HO0.out.free 5
      have m0_6 := HO0.out.free 6
      have m0_7 := HO0.out.free 7
      have m0_8 := HO0.out.free 8
      have c1_0 := HO1.out.cell 0
      have c1_1 := HO1.out.cell 1
      have c1_2 := HO1.out.cell 2
      have c1_3 := HO1.out.cell 3
      have c2_0 := HO2.out.cell 0
      have c2_1 := HO2.out.cell 1
      have c2_2 := HO2.out.cell 2
      have c2_3 := HO2.out.cell 3
      have c2_4 := HO2.out.cell 4
      have c2_5 := HO2.out.cell 5
      have c2_6 := HO2.out.cell 6
      have c2_7 := HO2.out.cell 7
      have c2_8 := HO2.out.cell 8
      have m2_0 := HO2.out.free 0
      have m2_1 := HO2.out.free 1
      have m2_2 := HO2.out.free 2
      have m2_3 := HO2.out.free 3
      have m2_4 := HO2.out.free 4
      have m2_5 := HO2.out.free 5
      have m2_6 := HO2.out.free 6
      have m2_7 := HO2.out.free 7
      have m2_8 := HO2.out.free 8
      go_wp2
      clear c0_0 c0_1 c0_2 c0_3 c0_4 c0_5 c0_6 c0_7 c0_8 m0_0 m0_1 m0_2 m0_3 m0_4 m0_5 m0_6 m0_7 m0_8 c1_0 c1_1 c1_2 c1_3 c2_0 c2_1 c2_2 c2_3 c2_4 c2_5 c2_6 c2_7 c2_8 m2_0 m2_1 m2_2 m2_3 m2_4 m2_5 m2_6 m2_7 m2_8
      have hxo := ((((HO0.out.store 4 (.int .i64 x1)).store 5 (.int .i64 x2)).store 6 (.string x3)).store 7 (.bool s))
      simp only [List.setIfInBounds_toArray, List.set_cons_zero, List.set_cons_succ] at hxo
      have HXO := Lib.hid hxo
      clear hxo
      have HXB := Lib.hid (((((HB.out.setCell (p := ⟨w.heap.size, 4, none⟩) (by show w.heap.size ≤ w.heap.size; omega) (.int .i64 x1)).setCell (p := ⟨w.heap.size, 5, none⟩) (by show w.heap.size ≤ w.heap.size; omega) (.int .i64 x2)).setCell (p := ⟨w.heap.size, 6, none⟩) (by show w.heap.size ≤ w.heap.size; omega) (.string x3)).setCell (p := ⟨w.heap.size, 7, none⟩) (by show w.heap.size ≤ w.heap.size; omega) (.bool s)))
      replace HO1 := Lib.hid ((((HO1.out.far (p := ⟨w.heap.size, 4, none⟩) (by show w.heap.size + 1 ≠ w.heap.size; omega) (.int .i64 x1)).far (p := ⟨w.heap.size, 5, none⟩) (by show w.heap.size + 1 ≠ w.heap.size; omega) (.int .i64 x2)).far (p := ⟨w.heap.size, 6, none⟩) (by show w.heap.size + 1 ≠ w.heap.size; omega) (.string x3)).far (p := ⟨w.heap.size, 7, none⟩) (by show w.heap.size + 1 ≠ w.heap.size; omega) (.bool s))
      replace HO2 := Lib.hid ((((HO2.out.far (p := ⟨w.heap.size, 4, none⟩) (by show w.heap.size + 1 + 1 ≠ w.heap.size; omega) (.int .i64 x1)).far (p := ⟨w.heap.size, 5, none⟩) (by show w.heap.size + 1 + 1 ≠ w.heap.size; omega) (.int .i64 x2)).far (p := ⟨w.heap.size, 6, none⟩) (by show w.heap.size + 1 + 1 ≠ w.heap.size; omega) (.string x3)).far (p := ⟨w.heap.size, 7, none⟩) (by show w.heap.size + 1 + 1 ≠ w.heap.size; omega) (.bool s))
      replace HO0 := HXO
      replace HB := HXB
      clear HXO HXB
      have hxo := (((((((((HO2.out.store 0 (.int .i64 a1)).store 1 (.int .i64 a2)).store 2 (.string a3)).store 3 (.bool ls)).store 4 (.int .i64 x1)).store 5 (.int .i64 x2)).store 6 (.string x3)).store 7 (.bool s)).store 8 (.bool im))
      simp only [List.setIfInBounds_toArray, List.set_cons_zero, List.set_cons_succ] at hxo
      have HXO := Lib.hid hxo
      clear hxo
      have HXB := Lib.hid ((((((((((HB.out.setCell (p := ⟨w.heap.size + 1 + 1, 0, none⟩) (by show w.heap.size ≤ w.heap.size + 1 + 1; omega) (.int .i64 a1)).setCell (p := ⟨w.heap.size + 1 + 1, 1, none⟩) (by show w.heap.size ≤ w.heap.size + 1 + 1; omega) (.int .i64 a2)).setCell (p := ⟨w.heap.size + 1 + 1, 2, none⟩) (by show w.heap.size ≤ w.heap.size + 1 + 1; omega) (.string a3)).setCell (p := ⟨w.heap.size + 1 + 1, 3, none⟩) (by show w.heap.size ≤ w.heap.size + 1 + 1; omega) (.bool ls)).setCell (p := ⟨w.heap.size + 1 + 1, 4, none⟩) (by show w.heap.size ≤ w.heap.size + 1 + 1; omega) (.int .i64 x1)).setCell (p := ⟨w.heap.size + 1 + 1, 5, none⟩) (by show w.heap.size ≤ w.heap.size + 1 + 1; omega) (.int .i64 x2)).setCell (p := ⟨w.heap.size + 1 + 1, 6, none⟩) (by show w.heap.size ≤ w.heap.size + 1 + 1; omega) (.string x3)).setCell (p := ⟨w.heap.size + 1 + 1, 7, none⟩) (by show w.heap.size ≤ w.heap.size + 1 + 1; omega) (.bool s)).setCell (p := ⟨w.heap.size + 1 + 1, 8, none⟩) (by show w.heap.size ≤ w.heap.size + 1 + 1; omega) (.bool im)))
      replace HO0 := Lib.hid (((((((((HO0.out.far (p := ⟨w.heap.size + 1 + 1, 0, none⟩) (by show w.heap.size ≠ w.heap.size + 1 + 1; omega) (.int .i64 a1)).far (p := ⟨w.heap.size + 1 + 1, 1, none⟩) (by show w.heap.size ≠ w.heap.size + 1 + 1; omega) (.int .i64 a2)).far (p := ⟨w.heap.size + 1 + 1, 2, none⟩) (by show w.heap.size ≠ w.heap.size + 1 + 1; omega) (.string a3)).far (p := ⟨w.heap.size + 1 + 1, 3, none⟩) (by show w.heap.size ≠ w.heap.size + 1 + 1; omega) (.bool ls)).far (p := ⟨w.heap.size + 1 + 1, 4, none⟩) (by show w.heap.size ≠ w.heap.size + 1 + 1; omega) (.int .i64 x1)).far (p := ⟨w.heap.size + 1 + 1, 5, none⟩) (by show w.heap.size ≠ w.heap.size + 1 + 1; omega) (.int .i64 x2)).far (p := ⟨w.heap.size + 1 + 1, 6, none⟩) (by show w.heap.size ≠ w.heap.size + 1 + 1; omega) (.string x3)).far (p := ⟨w.heap.size + 1 + 1, 7, none⟩) (by show w.heap.size ≠ w.heap.size + 1 + 1; omega) (.bool s)).far (p := ⟨w.heap.size + 1 + 1, 8, none⟩) (by show w.heap.size ≠ w.heap.size + 1 + 1; omega) (.bool im))
      replace HO1 := Lib.hid (((((((((HO1.out.far (p := ⟨w.heap.size + 1 + 1, 0, none⟩) (by show w.heap.size + 1 ≠ w.heap.size + 1 + 1; omega) (.int .i64 a1)).far (p := ⟨w.heap.size + 1 + 1, 1, none⟩) (by show w.heap.size + 1 ≠ w.heap.size + 1 + 1; omega) (.int .i64 a2)).far (p := ⟨w.heap.size + 1 + 1, 2, none⟩) (by show w.heap.size + 1 ≠ w.heap.size + 1 + 1; omega) (.string a3)).far (p := ⟨w.heap.size + 1 + 1, 3, none⟩) (by show w.heap.size + 1 ≠ w.heap.size + 1 + 1; omega) (.bool ls)).far (p := ⟨w.heap.size + 1 + 1, 4, none⟩) (by show w.heap.size + 1 ≠ w.heap.size + 1 + 1; omega) (.int .i64 x1)).far (p := ⟨w.heap.size + 1 + 1, 5, none⟩) (by show w.heap.size + 1 ≠ w.heap.size + 1 + 1; omega) (.int .i64 x2)).far (p := ⟨w.heap.size + 1 + 1, 6, none⟩) (by show w.heap.size + 1 ≠ w.heap.size + 1 + 1; omega) (.string x3)).far (p := ⟨w.heap.size + 1 + 1, 7, none⟩) (by show w.heap.size + 1 ≠ w.heap.size + 1 + 1; omega) (.bool s)).far (p := ⟨w.heap.size + 1 + 1, 8, none⟩) (by show w.heap.size + 1 ≠ w.heap.size + 1 + 1; omega) (.bool im))
      replace HO2 := HXO
      replace HB := HXB
      clear HXO HXB
      (try simp only [Exit.inBlock, Exit.then]); refine bodyPost_ret_by (results_cell_row1 (by rfl) _ _ (w.heap.size + 1 + 1) _ (by rfl) (load_itv HO2.out)) ?_ ?_; (focus rfl); (try dsimp only)
      exact ⟨rfl, HB.out⟩
    · have HO0 := Lib.hid (show Own (((w.alloc (.cells #[.int .i64 a1, .int .i64 a2, .string a3, .bool ls, .int .i64 b1, .int .i64 b2, .string b3, .bool hs, .bool im] 70)).alloc (.cells #[.int .i64 x1, .int .i64 x2, .string x3, .bool true] 68)).alloc (.cells #[.int .i64 0, .int .i64 0, .string ⟨#[]⟩, .bool false, .int .i64 0, .int .i64 0, .string ⟨#[]⟩, .bool false, .bool false] 70)) (w.heap.size) 70 #[.int .i64 a1, .int .i64 a2, .string a3, .bool ls, .int .i64 b1, .int .i64 b2, .string b3, .bool hs, .bool im] from by have h := Own.new w 70 #[.int .i64 a1, .int .i64 a2, .string a3, .bool ls, .int .i64 b1, .int .i64 b2, .string b3, .bool hs, .bool im]; (try simp only [World.size_alloc] at h); exact ((h.alloc (.cells #[.int .i64 x1, .int .i64 x2, .string x3, .bool true] 68)).alloc (.cells #[.int .i64 0, .int .i64 0, .string ⟨#[]⟩, .bool false, .int .i64 0, .int .i64 0, .string ⟨#[]⟩, .bool false, .bool false] 70)))
      have HO1 := Lib.hid (show Own (((w.alloc (.cells #[.int .i64 a1, .int .i64 a2, .string a3, .bool ls, .int .i64 b1, .int .i64 b2, .string b3, .bool hs, .bool im] 70)).alloc (.cells #[.int .i64 x1, .int .i64 x2, .string x3, .bool true] 68)).alloc (.cells #[.int .i64 0, .int .i64 0, .string ⟨#[]⟩, .bool false, .int .i64 0, .int .i64 0, .string ⟨#[]⟩, .bool false, .bool false] 70)) (w.heap.size + 1) 68 #[.int .i64 x1, .int .i64 x2, .string x3, .bool true] from by have h := Own.new (w.alloc (.cells #[.int .i64 a1, .int .i64 a2, .string a3, .bool ls, .int .i64 b1, .int .i64 b2, .string b3, .bool hs, .bool im] 70)) 68 #[.int .i64 x1, .int .i64 x2, .string x3, .bool true]; (try simp only [World.size_alloc] at h); exact (h.alloc (.cells #[.int .i64 0, .int .i64 0, .string ⟨#[]⟩, .bool false, .int .i64 0, .int .i64 0, .string ⟨#[]⟩, .bool false, .bool false] 70)))
      have HO2 := Lib.hid (show Own (((w.alloc (.cells #[.int .i64 a1, .int .i64 a2, .string a3, .bool ls, .int .i64 b1, .int .i64 b2, .string b3, .bool hs, .bool im] 70)).alloc (.cells #[.int .i64 x1, .int .i64 x2, .string x3, .bool true] 68)).alloc (.cells #[.int .i64 0, .int .i64 0, .string ⟨#[]⟩, .bool false, .int .i64 0, .int .i64 0, .string ⟨#[]⟩, .bool false, .bool false] 70)) (w.heap.size + 1 + 1) 70 #[.int .i64 0, .int .i64 0, .string ⟨#[]⟩, .bool false, .int .i64 0, .int .i64 0, .string ⟨#[]⟩, .bool false, .bool false] from by have h := Own.new ((w.alloc (.cells #[.int .i64 a1, .int .i64 a2, .string a3, .bool ls, .int .i64 b1, .int .i64 b2, .string b3, .bool hs, .bool im] 70)).alloc (.cells #[.int .i64 x1, .int .i64 x2, .string x3, .bool true] 68)) 70 #[.int .i64 0, .int .i64 0, .string ⟨#[]⟩, .bool false, .int .i64 0, .int .i64 0, .string ⟨#[]⟩, .bool false, .bool false]; (try simp only [World.size_alloc] at h); exact h)
      have HB := Lib.hid (show Below w.heap.size w (((w.alloc (.cells #[.int .i64 a1, .int .i64 a2, .string a3, .bool ls, .int .i64 b1, .int .i64 b2, .string b3, .bool hs, .bool im] 70)).alloc (.cells #[.int .i64 x1, .int .i64 x2, .string x3, .bool true] 68)).alloc (.cells #[.int .i64 0, .int .i64 0, .string ⟨#[]⟩, .bool false, .int .i64 0, .int .i64 0, .string ⟨#[]⟩, .bool false, .bool false] 70)) from ((bel_mk w (.cells #[.int .i64 a1, .int .i64 a2, .string a3, .bool ls, .int .i64 b1, .int .i64 b2, .string b3, .bool hs, .bool im] 70)).trans ((bel_mk (w.alloc (.cells #[.int .i64 a1, .int .i64 a2, .string a3, .bool ls, .int .i64 b1, .int .i64 b2, .string b3, .bool hs, .bool im] 70)) (.cells #[.int .i64 x1, .int .i64 x2, .string x3, .bool true] 68)).mono (by simp only [World.size_alloc]; omega))).trans ((bel_mk ((w.alloc (.cells #[.int .i64 a1, .int .i64 a2, .string a3, .bool ls, .int .i64 b1, .int .i64 b2, .string b3, .bool hs, .bool im] 70)).alloc (.cells #[.int .i64 x1, .int .i64 x2, .string x3, .bool true] 68)) (.cells #[.int .i64 0, .int .i64 0, .string ⟨#[]⟩, .bool false, .int .i64 0, .int .i64 0, .string ⟨#[]⟩, .bool false, .bool false] 70)).mono (by simp only [World.size_alloc]; omega)))
      have c0_0 := HO0.out.cell 0
      have c0_1 := HO0.out.cell 1
      have c0_2 := HO0.out.cell 2
      have c0_3 := HO0.out.cell 3
      have c0_4 := HO0.out.cell 4
      have c0_5 := HO0.out.cell 5
      have c0_6 := HO0.out.cell 6
      have c0_7 := HO0.out.cell 7
      have c0_8 := HO0.out.cell 8
      have c1_0 := HO1.out.cell 0
      have c1_1 := HO1.out.cell 1
      have c1_2 := HO1.out.cell 2
      have c1_3 := HO1.out.cell 3
      go_enter Try.func82, Try.ntmps82
      go_wp2_with fail
      with_reducible refine (HC.out _).mono ?_
      rintro e' w1 ⟨rfl, hb⟩
      clear c0_0 c0_1 c0_2 c0_3 c0_4 c0_5 c0_6 c0_7 c0_8 c1_0 c1_1 c1_2 c1_3
      replace HO0 := Lib.hid (HO0.out.below hb HO0.out.lt)
      replace HO1 := Lib.hid (HO1.out.below hb HO1.out.lt)
      replace HO2 := Lib.hid (HO2.out.below hb HO2.out.lt)
      replace HB := Lib.hid (HB.out.trans (hb.mono HB.out.size))
      clear hb
      have c0_0 := HO0.out.cell 0
      have c0_1 := HO0.out.cell 1
      have c0_2 := HO0.out.cell 2
      have c0_3 := HO0.out.cell 3
      have c0_4 := HO0.out.cell 4
      have c0_5 := HO0.out.cell 5
      have c0_6 := HO0.out.cell 6
      have c0_7 := HO0.out.cell 7
      have c0_8 := HO0.out.cell 8
      have m0_0 := HO0.out.free 0
      have m0_1 := HO0.out.free 1
      have m0_2 := HO0.out.free 2
      have m0_3 := HO0.out.free 3
      have m0_4 := HO0.out.free 4
      have m0_5 := HO0.out.free 5
      have m0_6 := HO0.out.free 6
      have m0_7 := HO0.out.free 7
      have m0_8 := HO0.out.free 8
      have c1_0 := HO1.out.cell 0
      have c1_1 := HO1.out.cell 1
      have c1_2 := HO1.out.cell 2
      have c1_3 := HO1.out.cell 3
      have c2_0 := HO2.out.cell 0
      have c2_1 := HO2.out.cell 1
      have c2_2 := HO2.out.cell 2
      have c2_3 := HO2.out.cell 3
      have c2_4 := HO2.out.cell 4
      have c2_5 := HO2.out.cell 5
      have c2_6 := HO2.out.cell 6
      have c2_7 := HO2.out.cell 7
      have c2_8 := HO2.out.cell 8
      have m2_0 := HO2.out.free 0
      have m2_1 := HO2.out.free 1
      have m2_2 := HO2.out.free 2
      have m2_3 := HO2.out.free 3
      have m2_4 := HO2.out.free 4
      have m2_5 := HO2.out.free 5
      have m2_6 := HO2.out.free 6
      have m2_7 := HO2.out.free 7
      have m2_8 := HO2.out.free 8
      go_wp2
      clear c0_0 c0_1 c0_2 c0_3 c0_4 c0_5 c0_6 c0_7 c0_8 m0_0 m0_1 m0_2 m0_3 m0_4 m0_5 m0_6 m0_7 m0_8 c1_0 c1_1 c1_2 c1_3 c2_0 c2_1 c2_2 c2_3 c2_4 c2_5 c2_6 c2_7 c2_8 m2_0 m2_1 m2_2 m2_3 m2_4 m2_5 m2_6 m2_7 m2_8
      have hxo := ((((HO0.out.store 4 (.int .i64 x1)).store 5 (.int .i64 x2)).store 6 (.string x3)).store 7 (.bool true))
      simp only [List.setIfInBounds_toArray, List.set_cons_zero, List.set_cons_succ] at hxo
      have HXO := Lib.hid hxo
      clear hxo
      have HXB := Lib.hid (((((HB.out.setCell (p := ⟨w.heap.size, 4, none⟩) (by show w.heap.size ≤ w.heap.size; omega) (.int .i64 x1)).setCell (p := ⟨w.heap.size, 5, none⟩) (by show w.heap.size ≤ w.heap.size; omega) (.int .i64 x2)).setCell (p := ⟨w.heap.size, 6, none⟩) (by show w.heap.size ≤ w.heap.size; omega) (.string x3)).setCell (p := ⟨w.heap.size, 7, none⟩) (by show w.heap.size ≤ w.heap.size; omega) (.bool true)))
      replace HO1 := Lib.hid ((((HO1.out.far (p := ⟨w.heap.size, 4, none⟩) (by show w.heap.size + 1 ≠ w.heap.size; omega) (.int .i64 x1)).far (p := ⟨w.heap.size, 5, none⟩) (by show w.heap.size + 1 ≠ w.heap.size; omega) (.int .i64 x2)).far (p := ⟨w.heap.size, 6, none⟩) (by show w.heap.size + 1 ≠ w.heap.size; omega) (.string x3)).far (p := ⟨w.heap.size, 7, none⟩) (by show w.heap.size + 1 ≠ w.heap.size; omega) (.bool true))
      replace HO2 := Lib.hid ((((HO2.out.far (p := ⟨w.heap.size, 4, none⟩) (by show w.heap.size + 1 + 1 ≠ w.heap.size; omega) (.int .i64 x1)).far (p := ⟨w.heap.size, 5, none⟩) (by show w.heap.size + 1 + 1 ≠ w.heap.size; omega) (.int .i64 x2)).far (p := ⟨w.heap.size, 6, none⟩) (by show w.heap.size + 1 + 1 ≠ w.heap.size; omega) (.string x3)).far (p := ⟨w.heap.size, 7, none⟩) (by show w.heap.size + 1 + 1 ≠ w.heap.size; omega) (.bool true))
      replace HO0 := HXO
      replace HB := HXB
      clear HXO HXB
      have hxo := (((((((((HO2.out.store 0 (.int .i64 a1)).store 1 (.int .i64 a2)).store 2 (.string a3)).store 3 (.bool ls)).store 4 (.int .i64 x1)).store 5 (.int .i64 x2)).store 6 (.string x3)).store 7 (.bool true)).store 8 (.bool im))
      simp only [List.setIfInBounds_toArray, List.set_cons_zero, List.set_cons_succ] at hxo
      have HXO := Lib.hid hxo
      clear hxo
      have HXB := Lib.hid ((((((((((HB.out.setCell (p := ⟨w.heap.size + 1 + 1, 0, none⟩) (by show w.heap.size ≤ w.heap.size + 1 + 1; omega) (.int .i64 a1)).setCell (p := ⟨w.heap.size + 1 + 1, 1, none⟩) (by show w.heap.size ≤ w.heap.size + 1 + 1; omega) (.int .i64 a2)).setCell (p := ⟨w.heap.size + 1 + 1, 2, none⟩) (by show w.heap.size ≤ w.heap.size + 1 + 1; omega) (.string a3)).setCell (p := ⟨w.heap.size + 1 + 1, 3, none⟩) (by show w.heap.size ≤ w.heap.size + 1 + 1; omega) (.bool ls)).setCell (p := ⟨w.heap.size + 1 + 1, 4, none⟩) (by show w.heap.size ≤ w.heap.size + 1 + 1; omega) (.int .i64 x1)).setCell (p := ⟨w.heap.size + 1 + 1, 5, none⟩) (by show w.heap.size ≤ w.heap.size + 1 + 1; omega) (.int .i64 x2)).setCell (p := ⟨w.heap.size + 1 + 1, 6, none⟩) (by show w.heap.size ≤ w.heap.size + 1 + 1; omega) (.string x3)).setCell (p := ⟨w.heap.size + 1 + 1, 7, none⟩) (by show w.heap.size ≤ w.heap.size + 1 + 1; omega) (.bool true)).setCell (p := ⟨w.heap.size + 1 + 1, 8, none⟩) (by show w.heap.size ≤ w.heap.size + 1 + 1; omega) (.bool im)))
      replace HO0 := Lib.hid (((((((((HO0.out.far (p := ⟨w.heap.size + 1 + 1, 0, none⟩) (by show w.heap.size ≠ w.heap.size + 1 + 1; omega) (.int .i64 a1)).far (p := ⟨w.heap.size + 1 + 1, 1, none⟩) (by show w.heap.size ≠ w.heap.size + 1 + 1; omega) (.int .i64 a2)).far (p := ⟨w.heap.size + 1 + 1, 2, none⟩) (by show w.heap.size ≠ w.heap.size + 1 + 1; omega) (.string a3)).far (p := ⟨w.heap.size + 1 + 1, 3, none⟩) (by show w.heap.size ≠ w.heap.size + 1 + 1; omega) (.bool ls)).far (p := ⟨w.heap.size + 1 + 1, 4, none⟩) (by show w.heap.size ≠ w.heap.size + 1 + 1; omega) (.int .i64 x1)).far (p := ⟨w.heap.size + 1 + 1, 5, none⟩) (by show w.heap.size ≠ w.heap.size + 1 + 1; omega) (.int .i64 x2)).far (p := ⟨w.heap.size + 1 + 1, 6, none⟩) (by show w.heap.size ≠ w.heap.size + 1 + 1; omega) (.string x3)).far (p := ⟨w.heap.size + 1 + 1, 7, none⟩) (by show w.heap.size ≠ w.heap.size + 1 + 1; omega) (.bool true)).far (p := ⟨w.heap.size + 1 + 1, 8, none⟩) (by show w.heap.size ≠ w.heap.size + 1 + 1; omega) (.bool im))
      replace HO1 := Lib.hid (((((((((HO1.out.far (p := ⟨w.heap.size + 1 + 1, 0, none⟩) (by show w.heap.size + 1 ≠ w.heap.size + 1 + 1; omega) (.int .i64 a1)).far (p := ⟨w.heap.size + 1 + 1, 1, none⟩) (by show w.heap.size + 1 ≠ w.heap.size + 1 + 1; omega) (.int .i64 a2)).far (p := ⟨w.heap.size + 1 + 1, 2, none⟩) (by show w.heap.size + 1 ≠ w.heap.size + 1 + 1; omega) (.string a3)).far (p := ⟨w.heap.size + 1 + 1, 3, none⟩) (by show w.heap.size + 1 ≠ w.heap.size + 1 + 1; omega) (.bool ls)).far (p := ⟨w.heap.size + 1 + 1, 4, none⟩) (by show w.heap.size + 1 ≠ w.heap.size + 1 + 1; omega) (.int .i64 x1)).far (p := ⟨w.heap.size + 1 + 1, 5, none⟩) (by show w.heap.size + 1 ≠ w.heap.size + 1 + 1; omega) (.int .i64 x2)).far (p := ⟨w.heap.size + 1 + 1, 6, none⟩) (by show w.heap.size + 1 ≠ w.heap.size + 1 + 1; omega) (.string x3)).far (p := ⟨w.heap.size + 1 + 1, 7, none⟩) (by show w.heap.size + 1 ≠ w.heap.size + 1 + 1; omega) (.bool true)).far (p := ⟨w.heap.size + 1 + 1, 8, none⟩) (by show w.heap.size + 1 ≠ w.heap.size + 1 + 1; omega) (.bool im))
      replace HO2 := HXO
      replace HB := HXB
      clear HXO HXB
      (try simp only [Exit.inBlock, Exit.then]); refine bodyPost_ret_by (results_cell_row1 (by rfl) _ _ (w.heap.size + 1 + 1) _ (by rfl) (load_itv HO2.out)) ?_ ?_; (focus rfl); (try dsimp only)
      exact ⟨rfl, HB.out⟩
  · rw [if_neg hc]
    have h1 : ¬ (c < 0) := fun h => hc (.inl h)
    by_cases h0 : c = 0
    · have hs0 : s = false := by cases s; rfl; exact absurd (.inr ⟨h0, rfl⟩) hc
      subst h0 hs0
      clear hc h1
      have HO0 := Lib.hid (show Own (((w.alloc (.cells #[.int .i64 a1, .int .i64 a2, .string a3, .bool ls, .int .i64 b1, .int .i64 b2, .string b3, .bool hs, .bool im] 70)).alloc (.cells #[.int .i64 x1, .int .i64 x2, .string x3, .bool false] 68)).alloc (.cells #[.int .i64 0, .int .i64 0, .string ⟨#[]⟩, .bool false, .int .i64 0, .int .i64 0, .string ⟨#[]⟩, .bool false, .bool false] 70)) (w.heap.size) 70 #[.int .i64 a1, .int .i64 a2, .string a3, .bool ls, .int .i64 b1, .int .i64 b2, .string b3, .bool hs, .bool im] from by have h := Own.new w 70 #[.int .i64 a1, .int .i64 a2, .string a3, .bool ls, .int .i64 b1, .int .i64 b2, .string b3, .bool hs, .bool im]; (try simp only [World.size_alloc] at h); exact ((h.alloc (.cells #[.int .i64 x1, .int .i64 x2, .string x3, .bool false] 68)).alloc (.cells #[.int .i64 0, .int .i64 0, .string ⟨#[]⟩, .bool false, .int .i64 0, .int .i64 0, .string ⟨#[]⟩, .bool false, .bool false] 70)))
      have HO1 := Lib.hid (show Own (((w.alloc (.cells #[.int .i64 a1, .int .i64 a2, .string a3, .bool ls, .int .i64 b1, .int .i64 b2, .string b3, .bool hs, .bool im] 70)).alloc (.cells #[.int .i64 x1, .int .i64 x2, .string x3, .bool false] 68)).alloc (.cells #[.int .i64 0, .int .i64 0, .string ⟨#[]⟩, .bool false, .int .i64 0, .int .i64 0, .string ⟨#[]⟩, .bool false, .bool false] 70)) (w.heap.size + 1) 68 #[.int .i64 x1, .int .i64 x2, .string x3, .bool false] from by have h := Own.new (w.alloc (.cells #[.int .i64 a1, .int .i64 a2, .string a3, .bool ls, .int .i64 b1, .int .i64 b2, .string b3, .bool hs, .bool im] 70)) 68 #[.int .i64 x1, .int .i64 x2, .string x3, .bool false]; (try simp only [World.size_alloc] at h); exact (h.alloc (.cells #[.int .i64 0, .int .i64 0, .string ⟨#[]⟩, .bool false, .int .i64 0, .int .i64 0, .string ⟨#[]⟩, .bool false, .bool false] 70)))
      have HO2 := Lib.hid (show Own (((w.alloc (.cells #[.int .i64 a1, .int .i64 a2, .string a3, .bool ls, .int .i64 b1, .int .i64 b2, .string b3, .bool hs, .bool im] 70)).alloc (.cells #[.int .i64 x1, .int .i64 x2, .string x3, .bool false] 68)).alloc (.cells #[.int .i64 0, .int .i64 0, .string ⟨#[]⟩, .bool false, .int .i64 0, .int .i64 0, .string ⟨#[]⟩, .bool false, .bool false] 70)) (w.heap.size + 1 + 1) 70 #[.int .i64 0, .int .i64 0, .string ⟨#[]⟩, .bool false, .int .i64 0, .int .i64 0, .string ⟨#[]⟩, .bool false, .bool false] from by have h := Own.new ((w.alloc (.cells #[.int .i64 a1, .int .i64 a2, .string a3, .bool ls, .int .i64 b1, .int .i64 b2, .string b3, .bool hs, .bool im] 70)).alloc (.cells #[.int .i64 x1, .int .i64 x2, .string x3, .bool false] 68)) 70 #[.int .i64 0, .int .i64 0, .string ⟨#[]⟩, .bool false, .int .i64 0, .int .i64 0, .string ⟨#[]⟩, .bool false, .bool false]; (try simp only [World.size_alloc] at h); exact h)
      have HB := Lib.hid (show Below w.heap.size w (((w.alloc (.cells #[.int .i64 a1, .int .i64 a2, .string a3, .bool ls, .int .i64 b1, .int .i64 b2, .string b3, .bool hs, .bool im] 70)).alloc (.cells #[.int .i64 x1, .int .i64 x2, .string x3, .bool false] 68)).alloc (.cells #[.int .i64 0, .int .i64 0, .string ⟨#[]⟩, .bool false, .int .i64 0, .int .i64 0, .string ⟨#[]⟩, .bool false, .bool false] 70)) from ((bel_mk w (.cells #[.int .i64 a1, .int .i64 a2, .string a3, .bool ls, .int .i64 b1, .int .i64 b2, .string b3, .bool hs, .bool im] 70)).trans ((bel_mk (w.alloc (.cells #[.int .i64 a1, .int .i64 a2, .string a3, .bool ls, .int .i64 b1, .int .i64 b2, .string b3, .bool hs, .bool im] 70)) (.cells #[.int .i64 x1, .int .i64 x2, .string x3, .bool false] 68)).mono (by simp only [World.size_alloc]; omega))).trans ((bel_mk ((w.alloc (.cells #[.int .i64 a1, .int .i64 a2, .string a3, .bool ls, .int .i64 b1, .int .i64 b2, .string b3, .bool hs, .bool im] 70)).alloc (.cells #[.int .i64 x1, .int .i64 x2, .string x3, .bool false] 68)) (.cells #[.int .i64 0, .int .i64 0, .string ⟨#[]⟩, .bool false, .int .i64 0, .int .i64 0, .string ⟨#[]⟩, .bool false, .bool false] 70)).mono (by simp only [World.size_alloc]; omega)))
      have c0_0 := HO0.out.cell 0
      have c0_1 := HO0.out.cell 1
      have c0_2 := HO0.out.cell 2
      have c0_3 := HO0.out.cell 3
      have c0_4 := HO0.out.cell 4
      have c0_5 := HO0.out.cell 5
      have c0_6 := HO0.out.cell 6
      have c0_7 := HO0.out.cell 7
      have c0_8 := HO0.out.cell 8
      have c1_0 := HO1.out.cell 0
      have c1_1 := HO1.out.cell 1
      have c1_2 := HO1.out.cell 2
      have c1_3 := HO1.out.cell 3
      go_enter Try.func82, Try.ntmps82
      go_wp2_with fail
      with_reducible refine (HC.out _).mono ?_
      rintro e' w1 ⟨rfl, hb⟩
      clear c0_0 c0_1 c0_2 c0_3 c0_4 c0_5 c0_6 c0_7 c0_8 c1_0 c1_1 c1_2 c1_3
      replace HO0 := Lib.hid (HO0.out.below hb HO0.out.lt)
      replace HO1 := Lib.hid (HO1.out.below hb HO1.out.lt)
      replace HO2 := Lib.hid (HO2.out.below hb HO2.out.lt)
      replace HB := Lib.hid (HB.out.trans (hb.mono HB.out.size))
      clear hb
      have c0_0 := HO0.out.cell 0
      have c0_1 := HO0.out.cell 1
      have c0_2 := HO0.out.cell 2
      have c0_3 := HO0.out.cell 3
      have c0_4 := HO0.out.cell 4
      have c0_5 := HO0.out.cell 5
      have c0_6 := HO0.out.cell 6
      have c0_7 := HO0.out.cell 7
      have c0_8 := HO0.out.cell 8
      have m0_0 := HO0.out.free 0
      have m0_1 := HO0.out.free 1
      have m0_2 := HO0.out.free 2
      have m0_3 := HO0.out.free 3
      have m0_4 := HO0.out.free 4
      have m0_5 := HO0.out.free 5
      have m0_6 := HO0.out.free 6
      have m0_7 := HO0.out.free 7
      have m0_8 := HO0.out.free 8
      have c1_0 := HO1.out.cell 0
      have c1_1 := HO1.out.cell 1
      have c1_2 := HO1.out.cell 2
      have c1_3 := HO1.out.cell 3
      have c2_0 := HO2.out.cell 0
      have c2_1 := HO2.out.cell 1
      have c2_2 := HO2.out.cell 2
      have c2_3 := HO2.out.cell 3
      have c2_4 := HO2.out.cell 4
      have c2_5 := HO2.out.cell 5
      have c2_6 := HO2.out.cell 6
      have c2_7 := HO2.out.cell 7
      have c2_8 := HO2.out.cell 8
      have m2_0 := HO2.out.free 0
      have m2_1 := HO2.out.free 1
      have m2_2 := HO2.out.free 2
      have m2_3 := HO2.out.free 3
      have m2_4 := HO2.out.free 4
      have m2_5 := HO2.out.free 5
      have m2_6 := HO2.out.free 6
      have m2_7 := HO2.out.free 7
      have m2_8 := HO2.out.free 8
      go_wp2
      clear c0_0 c0_1 c0_2 c0_3 c0_4 c0_5 c0_6 c0_7 c0_8 m0_0 m0_1 m0_2 m0_3 m0_4 m0_5 m0_6 m0_7 m0_8 c1_0 c1_1 c1_2 c1_3 c2_0 c2_1 c2_2 c2_3 c2_4 c2_5 c2_6 c2_7 c2_8 m2_0 m2_1 m2_2 m2_3 m2_4 m2_5 m2_6 m2_7 m2_8
      have hxo := (((((((((HO2.out.store 0 (.int .i64 a1)).store 1 (.int .i64 a2)).store 2 (.string a3)).store 3 (.bool ls)).store 4 (.int .i64 b1)).store 5 (.int .i64 b2)).store 6 (.string b3)).store 7 (.bool hs)).store 8 (.bool im))
      simp only [List.setIfInBounds_toArray, List.set_cons_zero, List.set_cons_succ] at hxo
      have HXO := Lib.hid hxo
      clear hxo
      have HXB := Lib.hid ((((((((((HB.out.setCell (p := ⟨w.heap.size + 1 + 1, 0, none⟩) (by show w.heap.size ≤ w.heap.size + 1 + 1; omega) (.int .i64 a1)).setCell (p := ⟨w.heap.size + 1 + 1, 1, none⟩) (by show w.heap.size ≤ w.heap.size + 1 + 1; omega) (.int .i64 a2)).setCell (p := ⟨w.heap.size + 1 + 1, 2, none⟩) (by show w.heap.size ≤ w.heap.size + 1 + 1; omega) (.string a3)).setCell (p := ⟨w.heap.size + 1 + 1, 3, none⟩) (by show w.heap.size ≤ w.heap.size + 1 + 1; omega) (.bool ls)).setCell (p := ⟨w.heap.size + 1 + 1, 4, none⟩) (by show w.heap.size ≤ w.heap.size + 1 + 1; omega) (.int .i64 b1)).setCell (p := ⟨w.heap.size + 1 + 1, 5, none⟩) (by show w.heap.size ≤ w.heap.size + 1 + 1; omega) (.int .i64 b2)).setCell (p := ⟨w.heap.size + 1 + 1, 6, none⟩) (by show w.heap.size ≤ w.heap.size + 1 + 1; omega) (.string b3)).setCell (p := ⟨w.heap.size + 1 + 1, 7, none⟩) (by show w.heap.size ≤ w.heap.size + 1 + 1; omega) (.bool hs)).setCell (p := ⟨w.heap.size + 1 + 1, 8, none⟩) (by show w.heap.size ≤ w.heap.size + 1 + 1; omega) (.bool im)))
      replace HO0 := Lib.hid (((((((((HO0.out.far (p := ⟨w.heap.size + 1 + 1, 0, none⟩) (by show w.heap.size ≠ w.heap.size + 1 + 1; omega) (.int .i64 a1)).far (p := ⟨w.heap.size + 1 + 1, 1, none⟩) (by show w.heap.size ≠ w.heap.size + 1 + 1; omega) (.int .i64 a2)).far (p := ⟨w.heap.size + 1 + 1, 2, none⟩) (by show w.heap.size ≠ w.heap.size + 1 + 1; omega) (.string a3)).far (p := ⟨w.heap.size + 1 + 1, 3, none⟩) (by show w.heap.size ≠ w.heap.size + 1 + 1; omega) (.bool ls)).far (p := ⟨w.heap.size + 1 + 1, 4, none⟩) (by show w.heap.size ≠ w.heap.size + 1 + 1; omega) (.int .i64 b1)).far (p := ⟨w.heap.size + 1 + 1, 5, none⟩) (by show w.heap.size ≠ w.heap.size + 1 + 1; omega) (.int .i64 b2)).far (p := ⟨w.heap.size + 1 + 1, 6, none⟩) (by show w.heap.size ≠ w.heap.size + 1 + 1; omega) (.string b3)).far (p := ⟨w.heap.size + 1 + 1, 7, none⟩) (by show w.heap.size ≠ w.heap.size + 1 + 1; omega) (.bool hs)).far (p := ⟨w.heap.size + 1 + 1, 8, none⟩) (by show w.heap.size ≠ w.heap.size + 1 + 1; omega) (.bool im))
      replace HO1 := Lib.hid (((((((((HO1.out.far (p := ⟨w.heap.size + 1 + 1, 0, none⟩) (by show w.heap.size + 1 ≠ w.heap.size + 1 + 1; omega) (.int .i64 a1)).far (p := ⟨w.heap.size + 1 + 1, 1, none⟩) (by show w.heap.size + 1 ≠ w.heap.size + 1 + 1; omega) (.int .i64 a2)).far (p := ⟨w.heap.size + 1 + 1, 2, none⟩) (by show w.heap.size + 1 ≠ w.heap.size + 1 + 1; omega) (.string a3)).far (p := ⟨w.heap.size + 1 + 1, 3, none⟩) (by show w.heap.size + 1 ≠ w.heap.size + 1 + 1; omega) (.bool ls)).far (p := ⟨w.heap.size + 1 + 1, 4, none⟩) (by show w.heap.size + 1 ≠ w.heap.size + 1 + 1; omega) (.int .i64 b1)).far (p := ⟨w.heap.size + 1 + 1, 5, none⟩) (by show w.heap.size + 1 ≠ w.heap.size + 1 + 1; omega) (.int .i64 b2)).far (p := ⟨w.heap.size + 1 + 1, 6, none⟩) (by show w.heap.size + 1 ≠ w.heap.size + 1 + 1; omega) (.string b3)).far (p := ⟨w.heap.size + 1 + 1, 7, none⟩) (by show w.heap.size + 1 ≠ w.heap.size + 1 + 1; omega) (.bool hs)).far (p := ⟨w.heap.size + 1 + 1, 8, none⟩) (by show w.heap.size + 1 ≠ w.heap.size + 1 + 1; omega) (.bool im))
      replace HO2 := HXO
      replace HB := HXB
      clear HXO HXB
      (try simp only [Exit.inBlock, Exit.then]); refine bodyPost_ret_by (results_cell_row1 (by rfl) _ _ (w.heap.size + 1 + 1) _ (by rfl) (load_itv HO2.out)) ?_ ?_; (focus rfl); (try dsimp only)
      exact ⟨rfl, HB.out⟩
    · have h0b : (c == 0) = false := by rw [beq_eq_false_iff_ne]; exact h0
      clear hc
      have HO0 := Lib.hid (show Own (((w.alloc (.cells #[.int .i64 a1, .int .i64 a2, .string a3, .bool ls, .int .i64 b1, .int .i64 b2, .string b3, .bool hs, .bool im] 70)).alloc (.cells #[.int .i64 x1, .int .i64 x2, .string x3, .bool s] 68)).alloc (.cells #[.int .i64 0, .int .i64 0, .string ⟨#[]⟩, .bool false, .int .i64 0, .int .i64 0, .string ⟨#[]⟩, .bool false, .bool false] 70)) (w.heap.size) 70 #[.int .i64 a1, .int .i64 a2, .string a3, .bool ls, .int .i64 b1, .int .i64 b2, .string b3, .bool hs, .bool im] from by have h := Own.new w 70 #[.int .i64 a1, .int .i64 a2, .string a3, .bool ls, .int .i64 b1, .int .i64 b2, .string b3, .bool hs, .bool im]; (try simp only [World.size_alloc] at h); exact ((h.alloc (.cells #[.int .i64 x1, .int .i64 x2, .string x3, .bool s] 68)).alloc (.cells #[.int .i64 0, .int .i64 0, .string ⟨#[]⟩, .bool false, .int .i64 0, .int .i64 0, .string ⟨#[]⟩, .bool false, .bool false] 70)))
      have HO1 := Lib.hid (show Own (((w.alloc (.cells #[.int .i64 a1, .int .i64 a2, .string a3, .bool ls, .int .i64 b1, .int .i64 b2, .string b3, .bool hs, .bool im] 70)).alloc (.cells #[.int .i64 x1, .int .i64 x2, .string x3, .bool s] 68)).alloc (.cells #[.int .i64 0, .int .i64 0, .string ⟨#[]⟩, .bool false, .int .i64 0, .int .i64 0, .string ⟨#[]⟩, .bool false, .bool false] 70)) (w.heap.size + 1) 68 #[.int .i64 x1, .int .i64 x2, .string x3, .bool s] from by have h := Own.new (w.alloc (.cells #[.int .i64 a1, .int .i64 a2, .string a3, .bool ls, .int .i64 b1, .int .i64 b2, .string b3, .bool hs, .bool im] 70)) 68 #[.int .i64 x1, .int .i64 x2, .string x3, .bool s]; (try simp only [World.size_alloc] at h); exact (h.alloc (.cells #[.int .i64 0, .int .i64 0, .string ⟨#[]⟩, .bool false, .int .i64 0, .int .i64 0, .string ⟨#[]⟩, .bool false, .bool false] 70)))
      have HO2 := Lib.hid (show Own (((w.alloc (.cells #[.int .i64 a1, .int .i64 a2, .string a3, .bool ls, .int .i64 b1, .int .i64 b2, .string b3, .bool hs, .bool im] 70)).alloc (.cells #[.int .i64 x1, .int .i64 x2, .string x3, .bool s] 68)).alloc (.cells #[.int .i64 0, .int .i64 0, .string ⟨#[]⟩, .bool false, .int .i64 0, .int .i64 0, .string ⟨#[]⟩, .bool false, .bool false] 70)) (w.heap.size + 1 + 1) 70 #[.int .i64 0, .int .i64 0, .string ⟨#[]⟩, .bool false, .int .i64 0, .int .i64 0, .string ⟨#[]⟩, .bool false, .bool false] from by have h := Own.new ((w.alloc (.cells #[.int .i64 a1, .int .i64 a2, .string a3, .bool ls, .int .i64 b1, .int .i64 b2, .string b3, .bool hs, .bool im] 70)).alloc (.cells #[.int .i64 x1, .int .i64 x2, .string x3, .bool s] 68)) 70 #[.int .i64 0, .int .i64 0, .string ⟨#[]⟩, .bool false, .int .i64 0, .int .i64 0, .string ⟨#[]⟩, .bool false, .bool false]; (try simp only [World.size_alloc] at h); exact h)
      have HB := Lib.hid (show Below w.heap.size w (((w.alloc (.cells #[.int .i64 a1, .int .i64 a2, .string a3, .bool ls, .int .i64 b1, .int .i64 b2, .string b3, .bool hs, .bool im] 70)).alloc (.cells #[.int .i64 x1, .int .i64 x2, .string x3, .bool s] 68)).alloc (.cells #[.int .i64 0, .int .i64 0, .string ⟨#[]⟩, .bool false, .int .i64 0, .int .i64 0, .string ⟨#[]⟩, .bool false, .bool false] 70)) from ((bel_mk w (.cells #[.int .i64 a1, .int .i64 a2, .string a3, .bool ls, .int .i64 b1, .int .i64 b2, .string b3, .bool hs, .bool im] 70)).trans ((bel_mk (w.alloc (.cells #[.int .i64 a1, .int .i64 a2, .string a3, .bool ls, .int .i64 b1, .int .i64 b2, .string b3, .bool hs, .bool im] 70)) (.cells #[.int .i64 x1, .int .i64 x2, .string x3, .bool s] 68)).mono (by simp only [World.size_alloc]; omega))).trans ((bel_mk ((w.alloc (.cells #[.int .i64 a1, .int .i64 a2, .string a3, .bool ls, .int .i64 b1, .int .i64 b2, .string b3, .bool hs, .bool im] 70)).alloc (.cells #[.int .i64 x1, .int .i64 x2, .string x3, .bool s] 68)) (.cells #[.int .i64 0, .int .i64 0, .string ⟨#[]⟩, .bool false, .int .i64 0, .int .i64 0, .string ⟨#[]⟩, .bool false, .bool false] 70)).mono (by simp only [World.size_alloc]; omega)))
      have c0_0 := HO0.out.cell 0
      have c0_1 := HO0.out.cell 1
      have c0_2 := HO0.out.cell 2
      have c0_3 := HO0.out.cell 3
      have c0_4 := HO0.out.cell 4
      have c0_5 := HO0.out.cell 5
      have c0_6 := HO0.out.cell 6
      have c0_7 := HO0.out.cell 7
      have c0_8 := HO0.out.cell 8
      have c1_0 := HO1.out.cell 0
      have c1_1 := HO1.out.cell 1
      have c1_2 := HO1.out.cell 2
      have c1_3 := HO1.out.cell 3
      go_enter Try.func82, Try.ntmps82
      go_wp2_with fail
      with_reducible refine (HC.out _).mono ?_
      rintro e' w1 ⟨rfl, hb⟩
      clear c0_0 c0_1 c0_2 c0_3 c0_4 c0_5 c0_6 c0_7 c0_8 c1_0 c1_1 c1_2 c1_3
      replace HO0 := Lib.hid (HO0.out.below hb HO0.out.lt)
      replace HO1 := Lib.hid (HO1.out.below hb HO1.out.lt)
      replace HO2 := Lib.hid (HO2.out.below hb HO2.out.lt)
      replace HB := Lib.hid (HB.out.trans (hb.mono HB.out.size))
      clear hb
      have c0_0 := HO0.out.cell 0
      have c0_1 := HO0.out.cell 1
      have c0_2 := HO0.out.cell 2
      have c0_3 := HO0.out.cell 3
      have c0_4 := HO0.out.cell 4
      have c0_5 := HO0.out.cell 5
      have c0_6 := HO0.out.cell 6
      have c0_7 := HO0.out.cell 7
      have c0_8 := HO0.out.cell 8
      have m0_0 := HO0.out.free 0
      have m0_1 := HO0.out.free 1
      have m0_2 := HO0.out.free 2
      have m0_3 := HO0.out.free 3
      have m0_4 := HO0.out.free 4
      have m0_5 := HO0.out.free 5
      have m0_6 := HO0.out.free 6
      have m0_7 := HO0.out.free 7
      have m0_8 := HO0.out.free 8
      have c1_0 := HO1.out.cell 0
      have c1_1 := HO1.out.cell 1
      have c1_2 := HO1.out.cell 2
      have c1_3 := HO1.out.cell 3
      have c2_0 := HO2.out.cell 0
      have c2_1 := HO2.out.cell 1
      have c2_2 := HO2.out.cell 2
      have c2_3 := HO2.out.cell 3
      have c2_4 := HO2.out.cell 4
      have c2_5 := HO2.out.cell 5
      have c2_6 := HO2.out.cell 6
      have c2_7 := HO2.out.cell 7
      have c2_8 := HO2.out.cell 8
      have m2_0 := HO2.out.free 0
      have m2_1 := HO2.out.free 1
      have m2_2 := HO2.out.free 2
      have m2_3 := HO2.out.free 3
      have m2_4 := HO2.out.free 4
      have m2_5 := HO2.out.free 5
      have m2_6 := HO2.out.free 6
      have m2_7 := HO2.out.free 7
      have m2_8 := HO2.out.free 8
      go_wp2
      clear c0_0 c0_1 c0_2 c0_3 c0_4 c0_5 c0_6 c0_7 c0_8 m0_0 m0_1 m0_2 m0_3 m0_4 m0_5 m0_6 m0_7 m0_8 c1_0 c1_1 c1_2 c1_3 c2_0 c2_1 c2_2 c2_3 c2_4 c2_5 c2_6 c2_7 c2_8 m2_0 m2_1 m2_2 m2_3 m2_4 m2_5 m2_6 m2_7 m2_8
      have hxo := (((((((((HO2.out.store 0 (.int .i64 a1)).store 1 (.int .i64 a2)).store 2 (.string a3)).store 3 (.bool ls)).store 4 (.int .i64 b1)).store 5 (.int .i64 b2)).store 6 (.string b3)).store 7 (.bool hs)).store 8 (.bool im))
      simp only [List.setIfInBounds_toArray, List.set_cons_zero, List.set_cons_succ] at hxo
      have HXO := Lib.hid hxo
      clear hxo
      have HXB := Lib.hid ((((((((((HB.out.setCell (p := ⟨w.heap.size + 1 + 1, 0, none⟩) (by show w.heap.size ≤ w.heap.size + 1 + 1; omega) (.int .i64 a1)).setCell (p := ⟨w.heap.size + 1 + 1, 1, none⟩) (by show w.heap.size ≤ w.heap.size + 1 + 1; omega) (.int .i64 a2)).setCell (p := ⟨w.heap.size + 1 + 1, 2, none⟩) (by show w.heap.size ≤ w.heap.size + 1 + 1; omega) (.string a3)).setCell (p := ⟨w.heap.size + 1 + 1, 3, none⟩) (by show w.heap.size ≤ w.heap.size + 1 + 1; omega) (.bool ls)).setCell (p := ⟨w.heap.size + 1 + 1, 4, none⟩) (by show w.heap.size ≤ w.heap.size + 1 + 1; omega) (.int .i64 b1)).setCell (p := ⟨w.heap.size + 1 + 1, 5, none⟩) (by show w.heap.size ≤ w.heap.size + 1 + 1; omega) (.int .i64 b2)).setCell (p := ⟨w.heap.size + 1 + 1, 6, none⟩) (by show w.heap.size ≤ w.heap.size + 1 + 1; omega) (.string b3)).setCell (p := ⟨w.heap.size + 1 + 1, 7, none⟩) (by show w.heap.size ≤ w.heap.size + 1 + 1; omega) (.bool hs)).setCell (p := ⟨w.heap.size + 1 + 1, 8, none⟩) (by show w.heap.size ≤ w.heap.size + 1 + 1; omega) (.bool im)))
      replace HO0 := Lib.hid (((((((((HO0.out.far (p := ⟨w.heap.size + 1 + 1, 0, none⟩) (by show w.heap.size ≠ w.heap.size + 1 + 1; omega) (.int .i64 a1)).far (p := ⟨w.heap.size + 1 + 1, 1, none⟩) (by show w.heap.size ≠ w.heap.size + 1 + 1; omega) (.int .i64 a2)).far (p := ⟨w.heap.size + 1 + 1, 2, none⟩) (by show w.heap.size ≠ w.heap.size + 1 + 1; omega) (.string a3)).far (p := ⟨w.heap.size + 1 + 1, 3, none⟩) (by show w.heap.size ≠ w.heap.size + 1 + 1; omega) (.bool ls)).far (p := ⟨w.heap.size + 1 + 1, 4, none⟩) (by show w.heap.size ≠ w.heap.size + 1 + 1; omega) (.int .i64 b1)).far (p := ⟨w.heap.size + 1 + 1, 5, none⟩) (by show w.heap.size ≠ w.heap.size + 1 + 1; omega) (.int .i64 b2)).far (p := ⟨w.heap.size + 1 + 1, 6, none⟩) (by show w.heap.size ≠ w.heap.size + 1 + 1; omega) (.string b3)).far (p := ⟨w.heap.size + 1 + 1, 7, none⟩) (by show w.heap.size ≠ w.heap.size + 1 + 1; omega) (.bool hs)).far (p := ⟨w.heap.size + 1 + 1, 8, none⟩) (by show w.heap.size ≠ w.heap.size + 1 + 1; omega) (.bool im))
      replace HO1 := Lib.hid (((((((((HO1.out.far (p := ⟨w.heap.size + 1 + 1, 0, none⟩) (by show w.heap.size + 1 ≠ w.heap.size + 1 + 1; omega) (.int .i64 a1)).far (p := ⟨w.heap.size + 1 + 1, 1, none⟩) (by show w.heap.size + 1 ≠ w.heap.size + 1 + 1; omega) (.int .i64 a2)).far (p := ⟨w.heap.size + 1 + 1, 2, none⟩) (by show w.heap.size + 1 ≠ w.heap.size + 1 + 1; omega) (.string a3)).far (p := ⟨w.heap.size + 1 + 1, 3, none⟩) (by show w.heap.size + 1 ≠ w.heap.size + 1 + 1; omega) (.bool ls)).far (p := ⟨w.heap.size + 1 + 1, 4, none⟩) (by show w.heap.size + 1 ≠ w.heap.size + 1 + 1; omega) (.int .i64 b1)).far (p := ⟨w.heap.size + 1 + 1, 5, none⟩) (by show w.heap.size + 1 ≠ w.heap.size + 1 + 1; omega) (.int .i64 b2)).far (p := ⟨w.heap.size + 1 + 1, 6, none⟩) (by show w.heap.size + 1 ≠ w.heap.size + 1 + 1; omega) (.string b3)).far (p := ⟨w.heap.size + 1 + 1, 7, none⟩) (by show w.heap.size + 1 ≠ w.heap.size + 1 + 1; omega) (.bool hs)).far (p := ⟨w.heap.size + 1 + 1, 8, none⟩) (by show w.heap.size + 1 ≠ w.heap.size + 1 + 1; omega) (.bool im))
      replace HO2 := HXO
      replace HB := HXB
      clear HXO HXB
      (try simp only [Exit.inBlock, Exit.then]); refine bodyPost_ret_by (results_cell_row1 (by rfl) _ _ (w.heap.size + 1 + 1) _ (by rfl) (load_itv HO2.out)) ?_ ?_; (focus rfl); (try dsimp only)
      exact ⟨rfl, HB.out⟩
set_option maxRecDepth 100000 in
set_option maxHeartbeats 6400000 in
theorem pBey_any (v : Vl) (st : Int) (hv : -4611686018427387904 ≤ v.2.1 ∧ v.2.1 ≤ 4611686018427387904) (hst : -1 ≤ st ∧ st ≤ 1) (w : World) : Calls Try.prog 83 #[valV v, .int .i64 st] w fun e w' => e = .returned (bndV (beyI v st).1 (beyI v st).2) ∧ Below w.heap.size w w' := by
  obtain ⟨x1, x2, x3⟩ := v
  unfold beyI
  dsimp only at *
  by_cases h2 : x1 = 2
  · subst h2
    rw [if_pos rfl]
    unfold valV bndV
    dsimp only
    go_enter Try.func83, Try.ntmps83
    go_wp2
    have HO0 := Lib.hid (show Own ((w.alloc (.cells #[.int .i64 2, .int .i64 x2, .string x3] 23)).alloc (.cells #[.int .i64 2, .int .i64 x2, .string x3, .bool true] 68)) (w.heap.size) 23 #[.int .i64 2, .int .i64 x2, .string x3] from by have h := Own.new w 23 #[.int .i64 2, .int .i64 x2, .string x3]; (try simp only [World.size_alloc] at h); exact (h.alloc (.cells #[.int .i64 2, .int .i64 x2, .string x3, .bool true] 68)))
    have HO1 := Lib.hid (show Own ((w.alloc (.cells #[.int .i64 2, .int .i64 x2, .string x3] 23)).alloc (.cells #[.int .i64 2, .int .i64 x2, .string x3, .bool true] 68)) (w.heap.size + 1) 68 #[.int .i64 2, .int .i64 x2, .string x3, .bool true] from by have h := Own.new (w.alloc (.cells #[.int .i64 2, .int .i64 x2, .string x3] 23)) 68 #[.int .i64 2, .int .i64 x2, .string x3, .bool true]; (try simp only [World.size_alloc] at h); exact h)
    have HB := Lib.hid (show Below w.heap.size w ((w.alloc (.cells #[.int .i64 2, .int .i64 x2, .string x3] 23)).alloc (.cells #[.int .i64 2, .int .i64 x2, .string x3, .bool true] 68)) from (bel_mk w (.cells #[.int .i64 2, .int .i64 x2, .string x3] 23)).trans ((bel_mk (w.alloc (.cells #[.int .i64 2, .int .i64 x2, .string x3] 23)) (.cells #[.int .i64 2, .int .i64 x2, .string x3, .bool true] 68)).mono (by simp only [World.size_alloc]; omega)))
    (try simp only [Exit.inBlock, Exit.then]); refine bodyPost_ret_by (results_cell_row1 (by rfl) _ _ (w.heap.size + 1) _ (by rfl) (load_bnd HO1.out)) ?_ ?_; (focus rfl); (try dsimp only)
    exact ⟨rfl, HB.out⟩
  · rw [if_neg h2]
    have h2b : (x1 == 2) = false := by rw [beq_eq_false_iff_ne]; exact h2
    have hw : -9223372036854775808 ≤ x2 + st ∧ x2 + st ≤ 9223372036854775807 := by omega
    unfold valV bndV
    dsimp only
    go_enter Try.func83, Try.ntmps83
    go_wp2
    have HO0 := Lib.hid (show Own ((w.alloc (.cells #[.int .i64 x1, .int .i64 (x2 + st), .string x3] 23)).alloc (.cells #[.int .i64 x1, .int .i64 (x2 + st), .string x3, .bool false] 68)) (w.heap.size) 23 #[.int .i64 x1, .int .i64 (x2 + st), .string x3] from by have h := Own.new w 23 #[.int .i64 x1, .int .i64 (x2 + st), .string x3]; (try simp only [World.size_alloc] at h); exact (h.alloc (.cells #[.int .i64 x1, .int .i64 (x2 + st), .string x3, .bool false] 68)))
    have HO1 := Lib.hid (show Own ((w.alloc (.cells #[.int .i64 x1, .int .i64 (x2 + st), .string x3] 23)).alloc (.cells #[.int .i64 x1, .int .i64 (x2 + st), .string x3, .bool false] 68)) (w.heap.size + 1) 68 #[.int .i64 x1, .int .i64 (x2 + st), .string x3, .bool false] from by have h := Own.new (w.alloc (.cells #[.int .i64 x1, .int .i64 (x2 + st), .string x3] 23)) 68 #[.int .i64 x1, .int .i64 (x2 + st), .string x3, .bool false]; (try simp only [World.size_alloc] at h); exact h)
    have HB := Lib.hid (show Below w.heap.size w ((w.alloc (.cells #[.int .i64 x1, .int .i64 (x2 + st), .string x3] 23)).alloc (.cells #[.int .i64 x1, .int .i64 (x2 + st), .string x3, .bool false] 68)) from (bel_mk w (.cells #[.int .i64 x1, .int .i64 (x2 + st), .string x3] 23)).trans ((bel_mk (w.alloc (.cells #[.int .i64 x1, .int .i64 (x2 + st), .string x3] 23)) (.cells #[.int .i64 x1, .int .i64 (x2 + st), .string x3, .bool false] 68)).mono (by simp only [World.size_alloc]; omega)))
    (try simp only [Exit.inBlock, Exit.then]); refine bodyPost_ret_by (results_cell_row1 (by rfl) _ _ (w.heap.size + 1) _ (by rfl) (load_bnd HO1.out)) ?_ ?_; (focus rfl); (try dsimp only)
    exact ⟨rfl, HB.out⟩
end Go.Proofs.Ythnmcpfmljibeaa
