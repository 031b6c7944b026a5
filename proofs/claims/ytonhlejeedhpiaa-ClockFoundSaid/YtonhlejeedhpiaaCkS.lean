/-
  Contracts of the small functions on clocks (validity, readings, the next time, how far a reading lies behind), of the program and of the reference. Conditions: none.
-/
import Derived.Test.YtonhlejeedhpiaaCkM
import Derived.Test.YtonhlejeedhpiaaMemS
import Derived.Test.YtonhlejeedhpiaaBlk
import Derived.IntWalk
import Derived.WalkKit
import Derived.WalkSpells
import Derived.WalkLawsBesides
import Derived.Deep.QuietTactic
import Derived.BigQuiet
import Derived.Handy
import Derived.Lib.Hide
namespace Go.Proofs.Ytonhlejeedhpiaa
open Go.RowKit

theorem pValid_any (a b : Int) (w : World) :
    Calls Try.prog 28 #[.agg #[.int .i64 a, .int .i64 b]] w fun e w' => e = .returned (.bool (cok a b)) ∧ Below w.heap.size w w' := by
  unfold cok
  by_cases h1 : 0 ≤ b <;> by_cases h2 : b ≤ a <;> by_cases h3 : a < 1099511627776
  all_goals first | (exfalso; omega) | skip
  all_goals
    go_enter Try.func28, Try.ntmps28
    go_wp2
    go_returns
    exact ⟨by simp [*], (Below.refl _ _).alloc (Nat.le_refl _) _⟩
theorem rcValid_any (a b : Int) (w : World) :
    Calls Try.prog 30 #[.agg #[.int .i64 a, .int .i64 b]] w fun e w' => e = .returned (.bool (cok a b)) ∧ Below w.heap.size w w' := by
  unfold cok
  by_cases h1 : 0 ≤ b <;> by_cases h2 : b ≤ a <;> by_cases h3 : a < 1099511627776
  all_goals first | (exfalso; omega) | skip
  all_goals
    go_enter Try.func30, Try.ntmps30
    go_wp2
    go_returns
    exact ⟨by simp [*], (Below.refl _ _).alloc (Nat.le_refl _) _⟩
theorem pInst_any (t : Int) (w : World) :
    Calls Try.prog 29 #[.int .i64 t] w fun e w' => e = .returned (.bool (inst t)) ∧ Below w.heap.size w w' := by
  unfold inst
  by_cases h1 : 0 ≤ t <;> by_cases h2 : t < 1099511627776
  all_goals first | (exfalso; omega) | skip
  all_goals
    go_enter Try.func29, Try.ntmps29
    go_wp2
    go_returns
    exact ⟨by simp [*], Below.refl _ _⟩
theorem rReading_any (t : Int) (w : World) :
    Calls Try.prog 31 #[.int .i64 t] w fun e w' => e = .returned (.bool (inst t)) ∧ Below w.heap.size w w' := by
  unfold inst
  by_cases h1 : 0 ≤ t <;> by_cases h2 : t < 1099511627776
  all_goals first | (exfalso; omega) | skip
  all_goals
    go_enter Try.func31, Try.ntmps31
    go_wp2
    go_returns
    exact ⟨by simp [*], Below.refl _ _⟩
theorem pStamp_any (a b : Int) (w : World) :
    Calls Try.prog 32 #[.agg #[.int .i64 a, .int .i64 b]] w fun e w' => e = .returned (.agg #[.int .i64 a, .int .i64 b]) ∧ Below w.heap.size w w' := by
  go_enter Try.func32, Try.ntmps32
  go_wp2
  go_returns
  refine ⟨rfl, ?_⟩
  (repeat' (first | (with_reducible exact Below.refl _ _) | (with_reducible assumption) | (with_reducible refine Below.alloc ?_ ?_ _) | (with_reducible refine Below.drew ?_) | (with_reducible refine Below.setCell ?_ ?_ _) | (with_reducible refine Below.trans ?_ (Below.mono (by assumption) ?_)) | go_size))
theorem wrap_next {a b : Int} (h : cok a b = true) : IntKind.i64.wrap (a + 1) = a + 1 := by
  rw [cok_iff] at h; exact IntWalk.i64_in _ (by omega)

theorem results_cell_row2 {fn : Func} {p u : Tmp} {ty : TypeId} (h : fn.results = #[.cell p ty, .tmp u]) (tmps : Array Value) (w : World) (g : Nat) (cs : Array Value) (hp : tmps.getD p undef = .pointer (some ⟨g, 0, none⟩))
    (hl : (loadVar ty ⟨g, 0, none⟩).run Try.prog w = .ok (.agg cs) w) : (results fn tmps).run Try.prog w = .ok (.tuple #[.agg cs, tmps.getD u undef]) w := by
  have hp' : tmps[p]?.getD undef = .pointer (some ⟨g, 0, none⟩) := by simpa using hp
  simp [results, h, hp', asAddr, hl]
theorem results_cell_row3 {fn : Func} {p u v : Tmp} {ty : TypeId} (h : fn.results = #[.cell p ty, .tmp u, .tmp v]) (tmps : Array Value) (w : World) (g : Nat) (cs : Array Value) (hp : tmps.getD p undef = .pointer (some ⟨g, 0, none⟩))
    (hl : (loadVar ty ⟨g, 0, none⟩).run Try.prog w = .ok (.agg cs) w) : (results fn tmps).run Try.prog w = .ok (.tuple #[.agg cs, tmps.getD u undef, tmps.getD v undef]) w := by
  have hp' : tmps[p]?.getD undef = .pointer (some ⟨g, 0, none⟩) := by simpa using hp
  simp [results, h, hp', asAddr, hl]
theorem load_clk {w : World} {g : Nat} {x y : Value} (h : Own w g 23 #[x, y]) : (loadVar 23 ⟨g, 0, none⟩).run Try.prog w = .ok (.agg #[x, y]) w :=
  run_loadVar_row w g 23 23 #[x, y] (0, 0) _ h Try.underlying23 rfl (by kernel_rfl)
theorem load_stp {w : World} {g : Nat} {x y : Value} (h : Own w g 34 #[x, y]) : (loadVar 34 ⟨g, 0, none⟩).run Try.prog w = .ok (.agg #[x, y]) w :=
  run_loadVar_row w g 34 34 #[x, y] (0, 0) _ h Try.underlying34 rfl (by kernel_rfl)
theorem cell_fst (w : World) (a b : Value) (t : TypeId) (o : Obj) : ((w.alloc (.cells #[a, b] t)).alloc o).cell? ⟨w.heap.size, 0, none⟩ = some a := (((Own.new w t #[a, b]).alloc o).cell 0)
theorem own_two {w : World} {t : TypeId} {cs : Array Value} (o : Obj) : Own ((w.alloc o).alloc (.cells cs t)) (w.heap.size + 1) t cs := by
  have h := Own.new (w.alloc o) t cs
  rwa [World.size_alloc] at h

set_option maxHeartbeats 800000 in
theorem pNext_any (a b r : Int) (w : World) :
    Calls Try.prog 10 #[.agg #[.int .i64 a, .int .i64 b], .int .i64 r] w fun e w' => e = .returned (nxV a b r) ∧ Below w.heap.size w w' := by
  have hV := pValid_any a b
  have hR := pInst_any r
  have oB : Own ((w.alloc (.cells #[.int .i64 a, .int .i64 b] 23)).alloc (.cells #[.int .i64 0, .int .i64 0] 23)) (w.heap.size + 1) 23 #[.int .i64 0, .int .i64 0] := own_two _
  cases h1 : cok a b
  · rw [nxV_no (by unfold nxE; simp [h1]), show nxE a b r = 8 by unfold nxE; simp [h1]]
    rw [h1] at hV
    go_enter Try.func10, Try.ntmps10
    go_wp2_with fail
    refine (hV _).mono ?_
    rintro e w1 ⟨rfl, hb1⟩
    have o1 := oB.below hb1 (by simp)
    have d0 : w1.cell? ⟨w.heap.size + 1, 0, none⟩ = some (.int .i64 0) := o1.cell 0
    have d1 : w1.cell? ⟨w.heap.size + 1, 1, none⟩ = some (.int .i64 0) := o1.cell 1
    have e0 := o1.free 0
    have e1 := o1.free 1
    have z1 := hb1.size
    simp only [World.size_alloc] at z1
    go_wp2
    (try simp only [Exit.inBlock, Exit.then])
    refine bodyPost_ret_by (results_cell_row3 (by rfl) _ _ (w.heap.size + 1) _ (by rfl) (load_clk ((o1.store 0 _).store 1 _))) ?_ ?_
    · rfl
    refine ⟨rfl, ?_⟩
    (repeat' (first | (with_reducible exact Below.refl _ _) | (with_reducible assumption) | (with_reducible refine Below.alloc ?_ ?_ _) | (with_reducible refine Below.drew ?_) | (with_reducible refine Below.setCell ?_ ?_ _) | (with_reducible refine Below.trans ?_ (Below.mono (by assumption) ?_)) | go_size))
  cases h2 : inst r
  · rw [nxV_no (by unfold nxE; simp [h1, h2]), show nxE a b r = 6 by unfold nxE; simp [h1, h2]]
    rw [h1] at hV
    rw [h2] at hR
    go_enter Try.func10, Try.ntmps10
    go_wp2_with fail
    refine (hV _).mono ?_
    rintro e w1 ⟨rfl, hb1⟩
    have o1 := oB.below hb1 (by simp)
    have d0 : w1.cell? ⟨w.heap.size + 1, 0, none⟩ = some (.int .i64 0) := o1.cell 0
    have d1 : w1.cell? ⟨w.heap.size + 1, 1, none⟩ = some (.int .i64 0) := o1.cell 1
    have e0 := o1.free 0
    have e1 := o1.free 1
    have z1 := hb1.size
    simp only [World.size_alloc] at z1
    go_wp2_with fail
    refine (hR _).mono ?_
    rintro e w2 ⟨rfl, hb2⟩
    clear d0 d1 e0 e1
    have o2 := o1.below hb2 (by omega)
    have d0 : w2.cell? ⟨w.heap.size + 1, 0, none⟩ = some (.int .i64 0) := o2.cell 0
    have d1 : w2.cell? ⟨w.heap.size + 1, 1, none⟩ = some (.int .i64 0) := o2.cell 1
    have e0 := o2.free 0
    have e1 := o2.free 1
    have z2 := hb2.size
    skip
    go_wp2
    (try simp only [Exit.inBlock, Exit.then])
    refine bodyPost_ret_by (results_cell_row3 (by rfl) _ _ (w.heap.size + 1) _ (by rfl) (load_clk ((o2.store 0 _).store 1 _))) ?_ ?_
    · rfl
    refine ⟨rfl, ?_⟩
    (repeat' (first | (with_reducible exact Below.refl _ _) | (with_reducible assumption) | (with_reducible refine Below.alloc ?_ ?_ _) | (with_reducible refine Below.drew ?_) | (with_reducible refine Below.setCell ?_ ?_ _) | (with_reducible refine Below.trans ?_ (Below.mono (by assumption) ?_)) | go_size))
  have hw := wrap_next h1
  rw [h1] at hV
  rw [h2] at hR
  rw [cok_iff] at h1
  rw [inst_iff] at h2
  have hx : ∃ x : Int, nxT a r = x ∧ ((r ≤ a + 1 ∧ x = a + 1) ∨ (¬ r ≤ a + 1 ∧ x = r)) := ⟨_, rfl, by unfold nxT; omega⟩
  obtain ⟨x, hx, hxx⟩ := hx
  have hE : nxE a b r = if inst x = false then 21 else 0 := by
    unfold nxE
    rw [hx, cok_iff.2 h1, inst_iff.2 h2]; rfl
  have hT := pInst_any x
  have hge : inst x = decide (¬ x ≥ 1099511627776) := by
    unfold inst
    rw [decide_eq_true (by omega : 0 ≤ x), Bool.true_and]
    exact decide_eq_decide.2 (by omega)
  cases h3 : inst x
  · rw [h3] at hE hT hge
    rw [nxV_no (by rw [hE]; decide), hE, if_pos rfl]
    have h4 : x ≥ 1099511627776 := by have := of_decide_eq_false hge.symm; omega
    clear hE hge h3
    rcases hxx with ⟨hle, rfl⟩ | ⟨hle, rfl⟩
    · go_enter Try.func10, Try.ntmps10
      go_wp2_with fail
      refine (hV _).mono ?_
      rintro e w1 ⟨rfl, hb1⟩
      have o1 := oB.below hb1 (by simp)
      have d0 : w1.cell? ⟨w.heap.size + 1, 0, none⟩ = some (.int .i64 0) := o1.cell 0
      have d1 : w1.cell? ⟨w.heap.size + 1, 1, none⟩ = some (.int .i64 0) := o1.cell 1
      have e0 := o1.free 0
      have e1 := o1.free 1
      have z1 := hb1.size
      simp only [World.size_alloc] at z1
      go_wp2_with fail
      refine (hR _).mono ?_
      rintro e w2 ⟨rfl, hb2⟩
      clear d0 d1 e0 e1
      have o2 := o1.below hb2 (by omega)
      have d0 : w2.cell? ⟨w.heap.size + 1, 0, none⟩ = some (.int .i64 0) := o2.cell 0
      have d1 : w2.cell? ⟨w.heap.size + 1, 1, none⟩ = some (.int .i64 0) := o2.cell 1
      have e0 := o2.free 0
      have e1 := o2.free 1
      have z2 := hb2.size
      skip
      have c0 : w2.cell? ⟨w.heap.size, 0, none⟩ = some (.int .i64 a) := ((hb2.cell (p := ⟨w.heap.size, 0, none⟩) (by show w.heap.size < _; omega)).trans (hb1.cell (p := ⟨w.heap.size, 0, none⟩) (by simp; omega))).trans (cell_fst _ _ _ _ _)
      go_wp2_with fail
      refine (hT _).mono ?_
      rintro e w3 ⟨rfl, hb3⟩
      clear d0 d1 e0 e1
      have o3 := o2.below hb3 (by omega)
      have d0 : w3.cell? ⟨w.heap.size + 1, 0, none⟩ = some (.int .i64 0) := o3.cell 0
      have d1 : w3.cell? ⟨w.heap.size + 1, 1, none⟩ = some (.int .i64 0) := o3.cell 1
      have e0 := o3.free 0
      have e1 := o3.free 1
      have z3 := hb3.size
      skip
      go_wp2
      (try simp only [Exit.inBlock, Exit.then])
      refine bodyPost_ret_by (results_cell_row3 (by rfl) _ _ (w.heap.size + 1) _ (by rfl) (load_clk ((o3.store 0 _).store 1 _))) ?_ ?_
      · rfl
      refine ⟨rfl, ?_⟩
      (repeat' (first | (with_reducible exact Below.refl _ _) | (with_reducible assumption) | (with_reducible refine Below.alloc ?_ ?_ _) | (with_reducible refine Below.drew ?_) | (with_reducible refine Below.setCell ?_ ?_ _) | (with_reducible refine Below.trans ?_ (Below.mono (by assumption) ?_)) | go_size))
    · exfalso; omega
  · rw [h3] at hE hT hge
    rw [nxV_ok hE, hx]
    have h4 : ¬ x ≥ 1099511627776 := of_decide_eq_true hge.symm
    clear hE hge h3
    rcases hxx with ⟨hle, rfl⟩ | ⟨hle, rfl⟩
    · go_enter Try.func10, Try.ntmps10
      go_wp2_with fail
      refine (hV _).mono ?_
      rintro e w1 ⟨rfl, hb1⟩
      have o1 := oB.below hb1 (by simp)
      have d0 : w1.cell? ⟨w.heap.size + 1, 0, none⟩ = some (.int .i64 0) := o1.cell 0
      have d1 : w1.cell? ⟨w.heap.size + 1, 1, none⟩ = some (.int .i64 0) := o1.cell 1
      have e0 := o1.free 0
      have e1 := o1.free 1
      have z1 := hb1.size
      simp only [World.size_alloc] at z1
      go_wp2_with fail
      refine (hR _).mono ?_
      rintro e w2 ⟨rfl, hb2⟩
      clear d0 d1 e0 e1
      have o2 := o1.below hb2 (by omega)
      have d0 : w2.cell? ⟨w.heap.size + 1, 0, none⟩ = some (.int .i64 0) := o2.cell 0
      have d1 : w2.cell? ⟨w.heap.size + 1, 1, none⟩ = some (.int .i64 0) := o2.cell 1
      have e0 := o2.free 0
      have e1 := o2.free 1
      have z2 := hb2.size
      skip
      have c0 : w2.cell? ⟨w.heap.size, 0, none⟩ = some (.int .i64 a) := ((hb2.cell (p := ⟨w.heap.size, 0, none⟩) (by show w.heap.size < _; omega)).trans (hb1.cell (p := ⟨w.heap.size, 0, none⟩) (by simp; omega))).trans (cell_fst _ _ _ _ _)
      go_wp2_with fail
      refine (hT _).mono ?_
      rintro e w3 ⟨rfl, hb3⟩
      clear d0 d1 e0 e1
      have o3 := o2.below hb3 (by omega)
      have d0 : w3.cell? ⟨w.heap.size + 1, 0, none⟩ = some (.int .i64 0) := o3.cell 0
      have d1 : w3.cell? ⟨w.heap.size + 1, 1, none⟩ = some (.int .i64 0) := o3.cell 1
      have e0 := o3.free 0
      have e1 := o3.free 1
      have z3 := hb3.size
      skip
      go_wp2
      (try simp only [Exit.inBlock, Exit.then])
      refine bodyPost_ret_by (results_cell_row3 (by rfl) _ _ (w.heap.size + 1) _ (by rfl) (load_clk ((o3.store 0 _).store 1 _))) ?_ ?_
      · rfl
      refine ⟨rfl, ?_⟩
      (repeat' (first | (with_reducible exact Below.refl _ _) | (with_reducible assumption) | (with_reducible refine Below.alloc ?_ ?_ _) | (with_reducible refine Below.drew ?_) | (with_reducible refine Below.setCell ?_ ?_ _) | (with_reducible refine Below.trans ?_ (Below.mono (by assumption) ?_)) | go_size))
    · go_enter Try.func10, Try.ntmps10
      go_wp2_with fail
      refine (hV _).mono ?_
      rintro e w1 ⟨rfl, hb1⟩
      have o1 := oB.below hb1 (by simp)
      have d0 : w1.cell? ⟨w.heap.size + 1, 0, none⟩ = some (.int .i64 0) := o1.cell 0
      have d1 : w1.cell? ⟨w.heap.size + 1, 1, none⟩ = some (.int .i64 0) := o1.cell 1
      have e0 := o1.free 0
      have e1 := o1.free 1
      have z1 := hb1.size
      simp only [World.size_alloc] at z1
      go_wp2_with fail
      refine (hR _).mono ?_
      rintro e w2 ⟨rfl, hb2⟩
      clear d0 d1 e0 e1
      have o2 := o1.below hb2 (by omega)
      have d0 : w2.cell? ⟨w.heap.size + 1, 0, none⟩ = some (.int .i64 0) := o2.cell 0
      have d1 : w2.cell? ⟨w.heap.size + 1, 1, none⟩ = some (.int .i64 0) := o2.cell 1
      have e0 := o2.free 0
      have e1 := o2.free 1
      have z2 := hb2.size
      skip
      have c0 : w2.cell? ⟨w.heap.size, 0, none⟩ = some (.int .i64 a) := ((hb2.cell (p := ⟨w.heap.size, 0, none⟩) (by show w.heap.size < _; omega)).trans (hb1.cell (p := ⟨w.heap.size, 0, none⟩) (by simp; omega))).trans (cell_fst _ _ _ _ _)
      go_wp2_with fail
      refine (hT _).mono ?_
      rintro e w3 ⟨rfl, hb3⟩
      clear d0 d1 e0 e1
      have o3 := o2.below hb3 (by omega)
      have d0 : w3.cell? ⟨w.heap.size + 1, 0, none⟩ = some (.int .i64 0) := o3.cell 0
      have d1 : w3.cell? ⟨w.heap.size + 1, 1, none⟩ = some (.int .i64 0) := o3.cell 1
      have e0 := o3.free 0
      have e1 := o3.free 1
      have z3 := hb3.size
      skip
      go_wp2
      (try simp only [Exit.inBlock, Exit.then])
      refine bodyPost_ret_by (results_cell_row3 (by rfl) _ _ (w.heap.size + 1) _ (by rfl) (load_clk ((o3.store 0 _).store 1 _))) ?_ ?_
      · rfl
      refine ⟨rfl, ?_⟩
      (repeat' (first | (with_reducible exact Below.refl _ _) | (with_reducible assumption) | (with_reducible refine Below.alloc ?_ ?_ _) | (with_reducible refine Below.drew ?_) | (with_reducible refine Below.setCell ?_ ?_ _) | (with_reducible refine Below.trans ?_ (Below.mono (by assumption) ?_)) | go_size))

set_option maxHeartbeats 800000 in
theorem rNext_any (a b r : Int) (w : World) :
    Calls Try.prog 11 #[.agg #[.int .i64 a, .int .i64 b], .int .i64 r] w fun e w' => e = .returned (nxV a b r) ∧ Below w.heap.size w w' := by
  have hV := rcValid_any a b
  have hR := rReading_any r
  have oB : Own ((w.alloc (.cells #[.int .i64 a, .int .i64 b] 23)).alloc (.cells #[.int .i64 0, .int .i64 0] 23)) (w.heap.size + 1) 23 #[.int .i64 0, .int .i64 0] := own_two _
  cases h1 : cok a b
  · rw [nxV_no (by unfold nxE; simp [h1]), show nxE a b r = 8 by unfold nxE; simp [h1]]
    rw [h1] at hV
    go_enter Try.func11, Try.ntmps11
    go_wp2_with fail
    refine (hV _).mono ?_
    rintro e w1 ⟨rfl, hb1⟩
    have o1 := oB.below hb1 (by simp)
    have d0 : w1.cell? ⟨w.heap.size + 1, 0, none⟩ = some (.int .i64 0) := o1.cell 0
    have d1 : w1.cell? ⟨w.heap.size + 1, 1, none⟩ = some (.int .i64 0) := o1.cell 1
    have e0 := o1.free 0
    have e1 := o1.free 1
    have z1 := hb1.size
    simp only [World.size_alloc] at z1
    go_wp2
    (try simp only [Exit.inBlock, Exit.then])
    refine bodyPost_ret_by (results_cell_row3 (by rfl) _ _ (w.heap.size + 1) _ (by rfl) (load_clk ((o1.store 0 _).store 1 _))) ?_ ?_
    · rfl
    refine ⟨rfl, ?_⟩
    (repeat' (first | (with_reducible exact Below.refl _ _) | (with_reducible assumption) | (with_reducible refine Below.alloc ?_ ?_ _) | (with_reducible refine Below.drew ?_) | (with_reducible refine Below.setCell ?_ ?_ _) | (with_reducible refine Below.trans ?_ (Below.mono (by assumption) ?_)) | go_size))
  cases h2 : inst r
  · rw [nxV_no (by unfold nxE; simp [h1, h2]), show nxE a b r = 6 by unfold nxE; simp [h1, h2]]
    rw [h1] at hV
    rw [h2] at hR
    go_enter Try.func11, Try.ntmps11
    go_wp2_with fail
    refine (hV _).mono ?_
    rintro e w1 ⟨rfl, hb1⟩
    have o1 := oB.below hb1 (by simp)
    have d0 : w1.cell? ⟨w.heap.size + 1, 0, none⟩ = some (.int .i64 0) := o1.cell 0
    have d1 : w1.cell? ⟨w.heap.size + 1, 1, none⟩ = some (.int .i64 0) := o1.cell 1
    have e0 := o1.free 0
    have e1 := o1.free 1
    have z1 := hb1.size
    simp only [World.size_alloc] at z1
    go_wp2_with fail
    refine (hR _).mono ?_
    rintro e w2 ⟨rfl, hb2⟩
    clear d0 d1 e0 e1
    have o2 := o1.below hb2 (by omega)
    have d0 : w2.cell? ⟨w.heap.size + 1, 0, none⟩ = some (.int .i64 0) := o2.cell 0
    have d1 : w2.cell? ⟨w.heap.size + 1, 1, none⟩ = some (.int .i64 0) := o2.cell 1
    have e0 := o2.free 0
    have e1 := o2.free 1
    have z2 := hb2.size
    skip
    go_wp2
    (try simp only [Exit.inBlock, Exit.then])
    refine bodyPost_ret_by (results_cell_row3 (by rfl) _ _ (w.heap.size + 1) _ (by rfl) (load_clk ((o2.store 0 _).store 1 _))) ?_ ?_
    · rfl
    refine ⟨rfl, ?_⟩
    (repeat' (first | (with_reducible exact Below.refl _ _) | (with_reducible assumption) | (with_reducible refine Below.alloc ?_ ?_ _) | (with_reducible refine Below.drew ?_) | (with_reducible refine Below.setCell ?_ ?_ _) | (with_reducible refine Below.trans ?_ (Below.mono (by assumption) ?_)) | go_size))
  have hw := wrap_next h1
  rw [h1] at hV
  rw [h2] at hR
  rw [cok_iff] at h1
  rw [inst_iff] at h2
  have hx : ∃ x : Int, nxT a r = x ∧ ((r ≤ a + 1 ∧ x = a + 1) ∨ (¬ r ≤ a + 1 ∧ x = r)) := ⟨_, rfl, by unfold nxT; omega⟩
  obtain ⟨x, hx, hxx⟩ := hx
  have hE : nxE a b r = if inst x = false then 21 else 0 := by
    unfold nxE
    rw [hx, cok_iff.2 h1, inst_iff.2 h2]; rfl
  have hT := rReading_any x
  have hge : inst x = decide (¬ x ≥ 1099511627776) := by
    unfold inst
    rw [decide_eq_true (by omega : 0 ≤ x), Bool.true_and]
    exact decide_eq_decide.2 (by omega)
  cases h3 : inst x
  · rw [h3] at hE hT hge
    rw [nxV_no (by rw [hE]; decide), hE, if_pos rfl]
    have h4 : x ≥ 1099511627776 := by have := of_decide_eq_false hge.symm; omega
    clear hE hge h3
    rcases hxx with ⟨hle, rfl⟩ | ⟨hle, rfl⟩
    · go_enter Try.func11, Try.ntmps11
      go_wp2_with fail
      refine (hV _).mono ?_
      rintro e w1 ⟨rfl, hb1⟩
      have o1 := oB.below hb1 (by simp)
      have d0 : w1.cell? ⟨w.heap.size + 1, 0, none⟩ = some (.int .i64 0) := o1.cell 0
      have d1 : w1.cell? ⟨w.heap.size + 1, 1, none⟩ = some (.int .i64 0) := o1.cell 1
      have e0 := o1.free 0
      have e1 := o1.free 1
      have z1 := hb1.size
      simp only [World.size_alloc] at z1
      go_wp2_with fail
      refine (hR _).mono ?_
      rintro e w2 ⟨rfl, hb2⟩
      clear d0 d1 e0 e1
      have o2 := o1.below hb2 (by omega)
      have d0 : w2.cell? ⟨w.heap.size + 1, 0, none⟩ = some (.int .i64 0) := o2.cell 0
      have d1 : w2.cell? ⟨w.heap.size + 1, 1, none⟩ = some (.int .i64 0) := o2.cell 1
      have e0 := o2.free 0
      have e1 := o2.free 1
      have z2 := hb2.size
      skip
      have c0 : w2.cell? ⟨w.heap.size, 0, none⟩ = some (.int .i64 a) := ((hb2.cell (p := ⟨w.heap.size, 0, none⟩) (by show w.heap.size < _; omega)).trans (hb1.cell (p := ⟨w.heap.size, 0, none⟩) (by simp; omega))).trans (cell_fst _ _ _ _ _)
      go_wp2
      (try simp only [Exit.inBlock, Exit.then])
      refine bodyPost_ret_by (results_cell_row3 (by rfl) _ _ (w.heap.size + 1) _ (by rfl) (load_clk ((o2.store 0 _).store 1 _))) ?_ ?_
      · rfl
      refine ⟨rfl, ?_⟩
      (repeat' (first | (with_reducible exact Below.refl _ _) | (with_reducible assumption) | (with_reducible refine Below.alloc ?_ ?_ _) | (with_reducible refine Below.drew ?_) | (with_reducible refine Below.setCell ?_ ?_ _) | (with_reducible refine Below.trans ?_ (Below.mono (by assumption) ?_)) | go_size))
    · exfalso; omega
  · rw [h3] at hE hT hge
    rw [nxV_ok hE, hx]
    have h4 : ¬ x ≥ 1099511627776 := of_decide_eq_true hge.symm
    clear hE hge h3
    rcases hxx with ⟨hle, rfl⟩ | ⟨hle, rfl⟩
    · go_enter Try.func11, Try.ntmps11
      go_wp2_with fail
      refine (hV _).mono ?_
      rintro e w1 ⟨rfl, hb1⟩
      have o1 := oB.below hb1 (by simp)
      have d0 : w1.cell? ⟨w.heap.size + 1, 0, none⟩ = some (.int .i64 0) := o1.cell 0
      have d1 : w1.cell? ⟨w.heap.size + 1, 1, none⟩ = some (.int .i64 0) := o1.cell 1
      have e0 := o1.free 0
      have e1 := o1.free 1
      have z1 := hb1.size
      simp only [World.size_alloc] at z1
      go_wp2_with fail
      refine (hR _).mono ?_
      rintro e w2 ⟨rfl, hb2⟩
      clear d0 d1 e0 e1
      have o2 := o1.below hb2 (by omega)
      have d0 : w2.cell? ⟨w.heap.size + 1, 0, none⟩ = some (.int .i64 0) := o2.cell 0
      have d1 : w2.cell? ⟨w.heap.size + 1, 1, none⟩ = some (.int .i64 0) := o2.cell 1
      have e0 := o2.free 0
      have e1 := o2.free 1
      have z2 := hb2.size
      skip
      have c0 : w2.cell? ⟨w.heap.size, 0, none⟩ = some (.int .i64 a) := ((hb2.cell (p := ⟨w.heap.size, 0, none⟩) (by show w.heap.size < _; omega)).trans (hb1.cell (p := ⟨w.heap.size, 0, none⟩) (by simp; omega))).trans (cell_fst _ _ _ _ _)
      go_wp2
      (try simp only [Exit.inBlock, Exit.then])
      refine bodyPost_ret_by (results_cell_row3 (by rfl) _ _ (w.heap.size + 1) _ (by rfl) (load_clk ((o2.store 0 _).store 1 _))) ?_ ?_
      · rfl
      refine ⟨rfl, ?_⟩
      (repeat' (first | (with_reducible exact Below.refl _ _) | (with_reducible assumption) | (with_reducible refine Below.alloc ?_ ?_ _) | (with_reducible refine Below.drew ?_) | (with_reducible refine Below.setCell ?_ ?_ _) | (with_reducible refine Below.trans ?_ (Below.mono (by assumption) ?_)) | go_size))
    · go_enter Try.func11, Try.ntmps11
      go_wp2_with fail
      refine (hV _).mono ?_
      rintro e w1 ⟨rfl, hb1⟩
      have o1 := oB.below hb1 (by simp)
      have d0 : w1.cell? ⟨w.heap.size + 1, 0, none⟩ = some (.int .i64 0) := o1.cell 0
      have d1 : w1.cell? ⟨w.heap.size + 1, 1, none⟩ = some (.int .i64 0) := o1.cell 1
      have e0 := o1.free 0
      have e1 := o1.free 1
      have z1 := hb1.size
      simp only [World.size_alloc] at z1
      go_wp2_with fail
      refine (hR _).mono ?_
      rintro e w2 ⟨rfl, hb2⟩
      clear d0 d1 e0 e1
      have o2 := o1.below hb2 (by omega)
      have d0 : w2.cell? ⟨w.heap.size + 1, 0, none⟩ = some (.int .i64 0) := o2.cell 0
      have d1 : w2.cell? ⟨w.heap.size + 1, 1, none⟩ = some (.int .i64 0) := o2.cell 1
      have e0 := o2.free 0
      have e1 := o2.free 1
      have z2 := hb2.size
      skip
      have c0 : w2.cell? ⟨w.heap.size, 0, none⟩ = some (.int .i64 a) := ((hb2.cell (p := ⟨w.heap.size, 0, none⟩) (by show w.heap.size < _; omega)).trans (hb1.cell (p := ⟨w.heap.size, 0, none⟩) (by simp; omega))).trans (cell_fst _ _ _ _ _)
      go_wp2
      (try simp only [Exit.inBlock, Exit.then])
      refine bodyPost_ret_by (results_cell_row3 (by rfl) _ _ (w.heap.size + 1) _ (by rfl) (load_clk ((o2.store 0 _).store 1 _))) ?_ ?_
      · rfl
      refine ⟨rfl, ?_⟩
      (repeat' (first | (with_reducible exact Below.refl _ _) | (with_reducible assumption) | (with_reducible refine Below.alloc ?_ ?_ _) | (with_reducible refine Below.drew ?_) | (with_reducible refine Below.setCell ?_ ?_ _) | (with_reducible refine Below.trans ?_ (Below.mono (by assumption) ?_)) | go_size))

set_option maxHeartbeats 800000 in
theorem pBehind_any (a b r : Int) (w : World) :
    Calls Try.prog 12 #[.agg #[.int .i64 a, .int .i64 b], .int .i64 r] w fun e w' => e = .returned (.int .i64 (bhd a b r)) ∧ Below w.heap.size w w' := by
  unfold bhd
  cases h1 : cok a b <;> cases h2 : inst r
  case true.true =>
    have hw : IntKind.i64.wrap (a - r) = a - r := by rw [cok_iff] at h1; rw [inst_iff] at h2; exact IntWalk.i64_in _ (by omega)
    rw [if_pos (show (true && true) = true from rfl)]
    have hx : ∃ x : Int, max (a - r) 0 = x ∧ ((a - r ≤ 0 ∧ x = 0) ∨ (0 ≤ a - r ∧ x = a - r)) := ⟨_, rfl, by omega⟩
    obtain ⟨x, hx, hxx⟩ := hx
    rw [hx]
    clear hx
    go_enter Try.func12, Try.ntmps12
    go_wp2_with (first | (go_at_call 28; refine (pValid_any _ _ _).mono ?_; rintro e w1 ⟨rfl, hb⟩; obtain ⟨hc, hf⟩ := bcell hb; have hz := hb.size; (try simp only [World.size_alloc] at hz); have hz0 : w.heap.size < w1.heap.size := (by omega)) | (go_at_call 29; refine (pInst_any _ _).mono ?_; rintro e w1 ⟨rfl, hb⟩; obtain ⟨hc, hf⟩ := bcell hb; have hz := hb.size; (try simp only [World.size_alloc] at hz); have hz0 : w.heap.size < w1.heap.size := (by omega)))
    all_goals
      go_returns
      refine ⟨by simp; omega, ?_⟩
      (repeat' (first | (with_reducible exact Below.refl _ _) | (with_reducible assumption) | (with_reducible refine Below.alloc ?_ ?_ _) | (with_reducible refine Below.drew ?_) | (with_reducible refine Below.setCell ?_ ?_ _) | (with_reducible refine Below.trans ?_ (Below.mono (by assumption) ?_)) | go_size))
  all_goals
    go_enter Try.func12, Try.ntmps12
    go_wp2_with (first | (go_at_call 28; refine (pValid_any _ _ _).mono ?_; rintro e w1 ⟨rfl, hb⟩; obtain ⟨hc, hf⟩ := bcell hb; have hz := hb.size; (try simp only [World.size_alloc] at hz); have hz0 : w.heap.size < w1.heap.size := (by omega)) | (go_at_call 29; refine (pInst_any _ _).mono ?_; rintro e w1 ⟨rfl, hb⟩; obtain ⟨hc, hf⟩ := bcell hb; have hz := hb.size; (try simp only [World.size_alloc] at hz); have hz0 : w.heap.size < w1.heap.size := (by omega)))
    go_returns
    refine ⟨by simp [*], ?_⟩
    (repeat' (first | (with_reducible exact Below.refl _ _) | (with_reducible assumption) | (with_reducible refine Below.alloc ?_ ?_ _) | (with_reducible refine Below.drew ?_) | (with_reducible refine Below.setCell ?_ ?_ _) | (with_reducible refine Below.trans ?_ (Below.mono (by assumption) ?_)) | go_size))

set_option maxHeartbeats 800000 in
theorem rBehind_any (a b r : Int) (w : World) :
    Calls Try.prog 13 #[.agg #[.int .i64 a, .int .i64 b], .int .i64 r] w fun e w' => e = .returned (.int .i64 (bhd a b r)) ∧ Below w.heap.size w w' := by
  unfold bhd
  cases h1 : cok a b <;> cases h2 : inst r
  case true.true =>
    have hw : IntKind.i64.wrap (a - r) = a - r := by rw [cok_iff] at h1; rw [inst_iff] at h2; exact IntWalk.i64_in _ (by omega)
    rw [if_pos (show (true && true) = true from rfl)]
    have hx : ∃ x : Int, max (a - r) 0 = x ∧ ((a - r ≤ 0 ∧ x = 0) ∨ (0 ≤ a - r ∧ x = a - r)) := ⟨_, rfl, by omega⟩
    obtain ⟨x, hx, hxx⟩ := hx
    rw [hx]
    clear hx
    go_enter Try.func13, Try.ntmps13
    go_wp2_with (first | (go_at_call 30; refine (rcValid_any _ _ _).mono ?_; rintro e w1 ⟨rfl, hb⟩; obtain ⟨hc, hf⟩ := bcell hb; have hz := hb.size; (try simp only [World.size_alloc] at hz); have hz0 : w.heap.size < w1.heap.size := (by omega)) | (go_at_call 31; refine (rReading_any _ _).mono ?_; rintro e w1 ⟨rfl, hb⟩; obtain ⟨hc, hf⟩ := bcell hb; have hz := hb.size; (try simp only [World.size_alloc] at hz); have hz0 : w.heap.size < w1.heap.size := (by omega)))
    all_goals
      go_returns
      refine ⟨by simp; omega, ?_⟩
      (repeat' (first | (with_reducible exact Below.refl _ _) | (with_reducible assumption) | (with_reducible refine Below.alloc ?_ ?_ _) | (with_reducible refine Below.drew ?_) | (with_reducible refine Below.setCell ?_ ?_ _) | (with_reducible refine Below.trans ?_ (Below.mono (by assumption) ?_)) | go_size))
  all_goals
    go_enter Try.func13, Try.ntmps13
    go_wp2_with (first | (go_at_call 30; refine (rcValid_any _ _ _).mono ?_; rintro e w1 ⟨rfl, hb⟩; obtain ⟨hc, hf⟩ := bcell hb; have hz := hb.size; (try simp only [World.size_alloc] at hz); have hz0 : w.heap.size < w1.heap.size := (by omega)) | (go_at_call 31; refine (rReading_any _ _).mono ?_; rintro e w1 ⟨rfl, hb⟩; obtain ⟨hc, hf⟩ := bcell hb; have hz := hb.size; (try simp only [World.size_alloc] at hz); have hz0 : w.heap.size < w1.heap.size := (by omega)))
    go_returns
    refine ⟨by simp [*], ?_⟩
    (repeat' (first | (with_reducible exact Below.refl _ _) | (with_reducible assumption) | (with_reducible refine Below.alloc ?_ ?_ _) | (with_reducible refine Below.drew ?_) | (with_reducible refine Below.setCell ?_ ?_ _) | (with_reducible refine Below.trans ?_ (Below.mono (by assumption) ?_)) | go_size))
end Go.Proofs.Ytonhlejeedhpiaa
