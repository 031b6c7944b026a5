/-
  Contracts of Shown's parts, of the program and of the reference: whether a reading may have been shown in the period of a stamp; Adjacent on periods. Conditions: none.
-/
import Derived.Test.YtonhlejeedhpiaaCkG
import Derived.Test.YtonhlejeedhpiaaCkN
import Derived.Test.YtonhlejeedhpiaaCkC
import Derived.WalkKit
import Derived.WalkSpells
import Derived.WalkLawsBesides
import Derived.Deep.QuietTactic
import Derived.BigQuiet
import Derived.Handy
import Derived.Lib.Hide
namespace Go.Proofs.Ytonhlejeedhpiaa
open Go.RowKit

set_option maxHeartbeats 400000 in
theorem valid_any (a b : Int) (w : World) :
    Calls Try.prog 40 #[.agg #[.int .i64 a, .int .i64 b]] w fun e w' => e = .returned (.bool (vld a b)) ∧ Below w.heap.size w w' := by
  unfold vld
  by_cases h1 : 0 ≤ a <;> by_cases h2 : a < b <;> by_cases h3 : b ≤ 1099511627776
  all_goals first | (exfalso; omega) | skip
  all_goals
    go_enter Try.func40, Try.ntmps40
    go_wp2
    go_ret
    exact ⟨by simp [*], (Below.refl _ _).alloc (Nat.le_refl _) _⟩

set_option maxHeartbeats 800000 in
theorem adjacent_any (a b c d : Int) (w : World) :
    Calls Try.prog 37 #[.agg #[.int .i64 a, .int .i64 b], .agg #[.int .i64 c, .int .i64 d]] w fun e w' => e = .returned (.bool (adj a b c d)) ∧ Below w.heap.size w w' := by
  unfold adj
  cases h1 : vld a b <;> cases h2 : vld c d <;> cases h3 : (b == c) <;> cases h4 : (d == a)
  all_goals
    go_enter Try.func37, Try.ntmps37
    go_wp2_with (go_at_call 40; refine (valid_any _ _ _).mono ?_; rintro e w1 ⟨rfl, hb⟩; obtain ⟨hc, hf⟩ := bcell hb; have hz := hb.size; (try simp only [World.size_alloc] at hz); have hz0 : w.heap.size < w1.heap.size := (by omega); have hz1 : w.heap.size + 1 < w1.heap.size := (by omega))
    go_ret
    refine ⟨by simp [*], ?_⟩
    (repeat' (first | (with_reducible exact Below.refl _ _) | (with_reducible assumption) | (with_reducible refine Below.alloc ?_ ?_ _) | (with_reducible refine Below.drew ?_) | (with_reducible refine Below.setCell ?_ ?_ _) | (with_reducible refine Below.trans ?_ (Below.mono (by assumption) ?_)) | go_size))

theorem load_per {w : World} {g : Nat} {x y : Value} (h : Own w g 49 #[x, y]) : (loadVar 49 ⟨g, 0, none⟩).run Try.prog w = .ok (.agg #[x, y]) w :=
  run_loadVar_row w g 49 49 #[x, y] (0, 0) _ h Try.underlying49 rfl (by kernel_rfl)
theorem results_cell_row1 {fn : Func} {p : Tmp} {ty : TypeId} (h : fn.results = #[.cell p ty]) (tmps : Array Value) (w : World) (g : Nat) (cs : Array Value) (hp : tmps.getD p undef = .pointer (some ⟨g, 0, none⟩))
    (hl : (loadVar ty ⟨g, 0, none⟩).run Try.prog w = .ok (.agg cs) w) : (results fn tmps).run Try.prog w = .ok (.agg cs) w := by
  have hp' : tmps[p]?.getD undef = .pointer (some ⟨g, 0, none⟩) := by simpa using hp
  simp [results, h, hp', asAddr, hl]
theorem rdP_head {w : World} {L B : Nat} {A : Option Addr} {n c : Nat} {l : List (Int × Int)} {p : Int × Int} (h : RdP w L B (.slice A n c) (p :: l)) : ∃ ad : Addr, A = some ad ∧ ad.block < B ∧ w.cell? ad = some (.int .i64 p.1) ∧ w.cell? ⟨ad.block, ad.off + 1, none⟩ = some (.int .i64 p.2) := by
  obtain ⟨ad, h1, _, h2, h3, h4⟩ := h.at (k := 0) (p := p) rfl
  exact ⟨ad, h1, h2, h3, h4⟩

/-- What shownAfter returns. -/
def saP (t r : Int) (F : List (Int × Int)) (wall : Int) : Int × Int := if mayB r (F.head?.map (·.2)) wall then (t, endO F.head?) else (0, 0)
theorem mayB_some (a b wall : Int) : mayB a (some b) wall = decide ((wall ≥ a ∧ wall ≤ b) ∨ (b < a ∧ (wall ≥ a ∨ wall ≤ b))) := by
  unfold mayB
  dsimp only
  by_cases h : b ≥ a
  · rw [if_pos h, Bool.eq_iff_iff]; simp; omega
  · rw [if_neg h, Bool.eq_iff_iff]; simp; omega
theorem saP_cons (t r t' r' : Int) (F : List (Int × Int)) (wall : Int) : saP t r ((t', r') :: F) wall = if (wall ≥ r ∧ wall ≤ r') ∨ (r' < r ∧ (wall ≥ r ∨ wall ≤ r')) then (t, t') else (0, 0) := by
  have h : saP t r ((t', r') :: F) wall = if mayB r (some r') wall = true then (t, t') else (0, 0) := rfl
  rw [h, mayB_some]
  by_cases hp : (wall ≥ r ∧ wall ≤ r') ∨ (r' < r ∧ (wall ≥ r ∨ wall ≤ r'))
  · rw [if_pos (decide_eq_true hp), if_pos hp]
  · rw [if_neg (by simp only [decide_eq_true_eq]; exact hp), if_neg hp]
set_option maxRecDepth 100000 in
set_option maxHeartbeats 1600000 in
theorem pAfter_any (t r wall : Int) (v : Value) (F : List (Int × Int)) (w : World) (L : Nat) (hv : RdP w L w.heap.size v F) :
    Calls Try.prog 36 #[.agg #[.int .i64 t, .int .i64 r], v, .int .i64 wall] w fun e w' => e = .returned (.agg #[.int .i64 (saP t r F wall).1, .int .i64 (saP t r F wall).2]) ∧ Below w.heap.size w w' := by
  have hv0 := hv
  obtain ⟨A, c, rfl, hl63, _⟩ := hv
  have oR : Own ((w.alloc (.cells #[.int .i64 t, .int .i64 r] 34)).alloc (.cells #[.int .i64 0, .int .i64 0] 49)) (w.heap.size + 1) 49 #[.int .i64 0, .int .i64 0] := own_two _
  have oS : Own ((w.alloc (.cells #[.int .i64 t, .int .i64 r] 34)).alloc (.cells #[.int .i64 0, .int .i64 0] 49)) w.heap.size 34 #[.int .i64 t, .int .i64 r] := (Own.new _ _ _).alloc _
  cases F with
  | nil =>
    by_cases hw : wall < r
    · rw [show saP t r [] wall = (0, 0) by unfold saP mayB; simp; omega]
      go_enter Try.func36, Try.ntmps36
      go_wp2
      (try simp only [Exit.inBlock, Exit.then])
      refine bodyPost_ret_by (results_cell_row1 (by rfl) _ _ (w.heap.size + 1) _ (by rfl) (load_per (own_two _))) ?_ ?_
      · rfl
      refine ⟨rfl, ?_⟩
      (repeat' (first | (with_reducible exact Below.refl _ _) | (with_reducible assumption) | (with_reducible refine Below.alloc ?_ ?_ _) | (with_reducible refine Below.drew ?_) | (with_reducible refine Below.setCell ?_ ?_ _) | (with_reducible refine Below.trans ?_ (Below.mono (by assumption) ?_)) | go_size))
    · rw [show saP t r [] wall = (t, 1099511627776) by unfold saP mayB endO; simp; omega]
      go_enter Try.func36, Try.ntmps36
      go_wp2
      (try simp only [Exit.inBlock, Exit.then])
      refine bodyPost_ret_by (results_cell_row1 (by rfl) _ _ (w.heap.size + 1) _ (by rfl) (load_per (own_two _))) ?_ ?_
      · rfl
      refine ⟨rfl, ?_⟩
      (repeat' (first | (with_reducible exact Below.refl _ _) | (with_reducible assumption) | (with_reducible refine Below.alloc ?_ ?_ _) | (with_reducible refine Below.drew ?_) | (with_reducible refine Below.setCell ?_ ?_ _) | (with_reducible refine Below.trans ?_ (Below.mono (by assumption) ?_)) | go_size))
  | cons q F =>
    obtain ⟨t', r'⟩ := q
    obtain ⟨ad, rfl, hab, c0, c1⟩ := rdP_head hv0
    dsimp only at c0 c1
    generalize hP : saP t r ((t', r') :: F) wall = P
    rw [saP_cons] at hP
    have hln : ((t', r') :: F).length = F.length + 1 := rfl
    rw [hln]
    generalize F.length = n at *
    have hn0 : (((n + 1 : Nat) : Int) == 0) = false := by simp; omega
    go_enter Try.func36, Try.ntmps36
    go_wp2
    have oN : Own (((w.alloc (.cells #[.int .i64 t, .int .i64 r] 34)).alloc (.cells #[.int .i64 0, .int .i64 0] 49)).alloc (.cells #[.int .i64 t', .int .i64 r'] 34)) (w.heap.size + 1 + 1) 34 #[.int .i64 t', .int .i64 r'] := by
      have h := Own.new ((w.alloc (.cells #[.int .i64 t, .int .i64 r] 34)).alloc (.cells #[.int .i64 0, .int .i64 0] 49)) 34 #[.int .i64 t', .int .i64 r']
      rwa [World.size_alloc, World.size_alloc] at h
    have oR3 := oR.alloc (.cells #[.int .i64 t', .int .i64 r'] 34)
    have oS3 := oS.alloc (.cells #[.int .i64 t', .int .i64 r'] 34)
    have B3 : Below w.heap.size w (((w.alloc (.cells #[.int .i64 t, .int .i64 r] 34)).alloc (.cells #[.int .i64 0, .int .i64 0] 49)).alloc (.cells #[.int .i64 t', .int .i64 r'] 34)) := (((Below.refl _ _).alloc (Nat.le_refl _) _).alloc (by simp) _).alloc (by simp; omega) _
    clear oR oS
    generalize (((w.alloc (.cells #[.int .i64 t, .int .i64 r] 34)).alloc (.cells #[.int .i64 0, .int .i64 0] 49)).alloc (.cells #[.int .i64 t', .int .i64 r'] 34)) = W at *
    have f0 : ∀ p : After W, p.w.cell? ⟨w.heap.size, 1, none⟩ = some (.int .i64 r) := after_cell oS3.lt (oS3.cell 1)
    have f1 : ∀ p : After W, p.w.cell? ⟨w.heap.size + 1 + 1, 1, none⟩ = some (.int .i64 r') := after_cell oN.lt (oN.cell 1)
    have zB := B3.size
    by_cases h1 : wall ≥ r
    · by_cases h2 : wall ≤ r'
      · by_cases h3 : r' < r
        · exfalso; omega
        · have k1 : decide (wall ≥ r) = true := decide_eq_true h1
          have k2 : decide (wall ≤ r') = true := decide_eq_true h2
          have k3 : decide (r' < r) = false := decide_eq_false h3
          rw [if_pos (by omega)] at hP
          subst hP
          (refine wp_region_after (by kernel_rfl) (by kernel_rfl) ?_; (repeat (go_big_quiet_step (fail))); refine wpQuiet_nil ?_; intro wq hw0; obtain ⟨⟨wq0, hbq⟩, hw1⟩ := hw0; subst hw1; (try dsimp only))
          have zq := hbq.size
          have oRq := oR3.below hbq oR3.lt
          have oSq := oS3.below hbq oS3.lt
          have oNq := oN.below hbq oN.lt
          have p0 : wq.cell? ⟨w.heap.size, 0, none⟩ = some (.int .i64 t) := oSq.cell 0
          have p1 : wq.cell? ⟨w.heap.size, 1, none⟩ = some (.int .i64 r) := oSq.cell 1
          have q0 : wq.cell? ⟨w.heap.size + 1 + 1, 0, none⟩ = some (.int .i64 t') := oNq.cell 0
          have q1 : wq.cell? ⟨w.heap.size + 1 + 1, 1, none⟩ = some (.int .i64 r') := oNq.cell 1
          have d0 : wq.cell? ⟨w.heap.size + 1, 0, none⟩ = some (.int .i64 0) := oRq.cell 0
          have d1 : wq.cell? ⟨w.heap.size + 1, 1, none⟩ = some (.int .i64 0) := oRq.cell 1
          have e0 := oRq.free 0
          have e1 := oRq.free 1
          have Bq := B3.trans (hbq.mono (by omega))
          clear f0 f1
          go_wp2
          (try simp only [Exit.inBlock, Exit.then])
          refine bodyPost_ret_by (results_cell_row1 (by rfl) _ _ (w.heap.size + 1) _ (by rfl) (load_per ((oRq.store 0 _).store 1 _))) ?_ ?_
          · rfl
          refine ⟨rfl, ?_⟩
          (repeat' (first | (with_reducible exact Below.refl _ _) | (with_reducible assumption) | (with_reducible refine Below.alloc ?_ ?_ _) | (with_reducible refine Below.drew ?_) | (with_reducible refine Below.setCell ?_ ?_ _) | (with_reducible refine Below.trans ?_ (Below.mono (by assumption) ?_)) | go_size))
      · by_cases h3 : r' < r
        · have k1 : decide (wall ≥ r) = true := decide_eq_true h1
          have k2 : decide (wall ≤ r') = false := decide_eq_false h2
          have k3 : decide (r' < r) = true := decide_eq_true h3
          rw [if_pos (by omega)] at hP
          subst hP
          (refine wp_region_after (by kernel_rfl) (by kernel_rfl) ?_; (repeat (go_big_quiet_step (fail))); refine wpQuiet_nil ?_; intro wq hw0; obtain ⟨⟨wq0, hbq⟩, hw1⟩ := hw0; subst hw1; (try dsimp only))
          have zq := hbq.size
          have oRq := oR3.below hbq oR3.lt
          have oSq := oS3.below hbq oS3.lt
          have oNq := oN.below hbq oN.lt
          have p0 : wq.cell? ⟨w.heap.size, 0, none⟩ = some (.int .i64 t) := oSq.cell 0
          have p1 : wq.cell? ⟨w.heap.size, 1, none⟩ = some (.int .i64 r) := oSq.cell 1
          have q0 : wq.cell? ⟨w.heap.size + 1 + 1, 0, none⟩ = some (.int .i64 t') := oNq.cell 0
          have q1 : wq.cell? ⟨w.heap.size + 1 + 1, 1, none⟩ = some (.int .i64 r') := oNq.cell 1
          have d0 : wq.cell? ⟨w.heap.size + 1, 0, none⟩ = some (.int .i64 0) := oRq.cell 0
          have d1 : wq.cell? ⟨w.heap.size + 1, 1, none⟩ = some (.int .i64 0) := oRq.cell 1
          have e0 := oRq.free 0
          have e1 := oRq.free 1
          have Bq := B3.trans (hbq.mono (by omega))
          clear f0 f1
          go_wp2
          (try simp only [Exit.inBlock, Exit.then])
          refine bodyPost_ret_by (results_cell_row1 (by rfl) _ _ (w.heap.size + 1) _ (by rfl) (load_per ((oRq.store 0 _).store 1 _))) ?_ ?_
          · rfl
          refine ⟨rfl, ?_⟩
          (repeat' (first | (with_reducible exact Below.refl _ _) | (with_reducible assumption) | (with_reducible refine Below.alloc ?_ ?_ _) | (with_reducible refine Below.drew ?_) | (with_reducible refine Below.setCell ?_ ?_ _) | (with_reducible refine Below.trans ?_ (Below.mono (by assumption) ?_)) | go_size))
        · have k1 : decide (wall ≥ r) = true := decide_eq_true h1
          have k2 : decide (wall ≤ r') = false := decide_eq_false h2
          have k3 : decide (r' < r) = false := decide_eq_false h3
          rw [if_neg (by omega)] at hP
          subst hP
          (refine wp_region_after (by kernel_rfl) (by kernel_rfl) ?_; (repeat (go_big_quiet_step (fail))); refine wpQuiet_nil ?_; intro wq hw0; obtain ⟨⟨wq0, hbq⟩, hw1⟩ := hw0; subst hw1; (try dsimp only))
          have zq := hbq.size
          have oRq := oR3.below hbq oR3.lt
          have oSq := oS3.below hbq oS3.lt
          have oNq := oN.below hbq oN.lt
          have p0 : wq.cell? ⟨w.heap.size, 0, none⟩ = some (.int .i64 t) := oSq.cell 0
          have p1 : wq.cell? ⟨w.heap.size, 1, none⟩ = some (.int .i64 r) := oSq.cell 1
          have q0 : wq.cell? ⟨w.heap.size + 1 + 1, 0, none⟩ = some (.int .i64 t') := oNq.cell 0
          have q1 : wq.cell? ⟨w.heap.size + 1 + 1, 1, none⟩ = some (.int .i64 r') := oNq.cell 1
          have d0 : wq.cell? ⟨w.heap.size + 1, 0, none⟩ = some (.int .i64 0) := oRq.cell 0
          have d1 : wq.cell? ⟨w.heap.size + 1, 1, none⟩ = some (.int .i64 0) := oRq.cell 1
          have e0 := oRq.free 0
          have e1 := oRq.free 1
          have Bq := B3.trans (hbq.mono (by omega))
          clear f0 f1
          go_wp2
          (try simp only [Exit.inBlock, Exit.then])
          refine bodyPost_ret_by (results_cell_row1 (by rfl) _ _ (w.heap.size + 1) _ (by rfl) (load_per ((oRq.store 0 _).store 1 _))) ?_ ?_
          · rfl
          refine ⟨rfl, ?_⟩
          (repeat' (first | (with_reducible exact Below.refl _ _) | (with_reducible assumption) | (with_reducible refine Below.alloc ?_ ?_ _) | (with_reducible refine Below.drew ?_) | (with_reducible refine Below.setCell ?_ ?_ _) | (with_reducible refine Below.trans ?_ (Below.mono (by assumption) ?_)) | go_size))
    · by_cases h2 : wall ≤ r'
      · by_cases h3 : r' < r
        · have k1 : decide (wall ≥ r) = false := decide_eq_false h1
          have k2 : decide (wall ≤ r') = true := decide_eq_true h2
          have k3 : decide (r' < r) = true := decide_eq_true h3
          rw [if_pos (by omega)] at hP
          subst hP
          (refine wp_region_after (by kernel_rfl) (by kernel_rfl) ?_; (repeat (go_big_quiet_step (fail))); refine wpQuiet_nil ?_; intro wq hw0; obtain ⟨⟨wq0, hbq⟩, hw1⟩ := hw0; subst hw1; (try dsimp only))
          have zq := hbq.size
          have oRq := oR3.below hbq oR3.lt
          have oSq := oS3.below hbq oS3.lt
          have oNq := oN.below hbq oN.lt
          have p0 : wq.cell? ⟨w.heap.size, 0, none⟩ = some (.int .i64 t) := oSq.cell 0
          have p1 : wq.cell? ⟨w.heap.size, 1, none⟩ = some (.int .i64 r) := oSq.cell 1
          have q0 : wq.cell? ⟨w.heap.size + 1 + 1, 0, none⟩ = some (.int .i64 t') := oNq.cell 0
          have q1 : wq.cell? ⟨w.heap.size + 1 + 1, 1, none⟩ = some (.int .i64 r') := oNq.cell 1
          have d0 : wq.cell? ⟨w.heap.size + 1, 0, none⟩ = some (.int .i64 0) := oRq.cell 0
          have d1 : wq.cell? ⟨w.heap.size + 1, 1, none⟩ = some (.int .i64 0) := oRq.cell 1
          have e0 := oRq.free 0
          have e1 := oRq.free 1
          have Bq := B3.trans (hbq.mono (by omega))
          clear f0 f1
          go_wp2
          (try simp only [Exit.inBlock, Exit.then])
          refine bodyPost_ret_by (results_cell_row1 (by rfl) _ _ (w.heap.size + 1) _ (by rfl) (load_per ((oRq.store 0 _).store 1 _))) ?_ ?_
          · rfl
          refine ⟨rfl, ?_⟩
          (repeat' (first | (with_reducible exact Below.refl _ _) | (with_reducible assumption) | (with_reducible refine Below.alloc ?_ ?_ _) | (with_reducible refine Below.drew ?_) | (with_reducible refine Below.setCell ?_ ?_ _) | (with_reducible refine Below.trans ?_ (Below.mono (by assumption) ?_)) | go_size))
        · have k1 : decide (wall ≥ r) = false := decide_eq_false h1
          have k2 : decide (wall ≤ r') = true := decide_eq_true h2
          have k3 : decide (r' < r) = false := decide_eq_false h3
          rw [if_neg (by omega)] at hP
          subst hP
          (refine wp_region_after (by kernel_rfl) (by kernel_rfl) ?_; (repeat (go_big_quiet_step (fail))); refine wpQuiet_nil ?_; intro wq hw0; obtain ⟨⟨wq0, hbq⟩, hw1⟩ := hw0; subst hw1; (try dsimp only))
          have zq := hbq.size
          have oRq := oR3.below hbq oR3.lt
          have oSq := oS3.below hbq oS3.lt
          have oNq := oN.below hbq oN.lt
          have p0 : wq.cell? ⟨w.heap.size, 0, none⟩ = some (.int .i64 t) := oSq.cell 0
          have p1 : wq.cell? ⟨w.heap.size, 1, none⟩ = some (.int .i64 r) := oSq.cell 1
          have q0 : wq.cell? ⟨w.heap.size + 1 + 1, 0, none⟩ = some (.int .i64 t') := oNq.cell 0
          have q1 : wq.cell? ⟨w.heap.size + 1 + 1, 1, none⟩ = some (.int .i64 r') := oNq.cell 1
          have d0 : wq.cell? ⟨w.heap.size + 1, 0, none⟩ = some (.int .i64 0) := oRq.cell 0
          have d1 : wq.cell? ⟨w.heap.size + 1, 1, none⟩ = some (.int .i64 0) := oRq.cell 1
          have e0 := oRq.free 0
          have e1 := oRq.free 1
          have Bq := B3.trans (hbq.mono (by omega))
          clear f0 f1
          go_wp2
          (try simp only [Exit.inBlock, Exit.then])
          refine bodyPost_ret_by (results_cell_row1 (by rfl) _ _ (w.heap.size + 1) _ (by rfl) (load_per ((oRq.store 0 _).store 1 _))) ?_ ?_
          · rfl
          refine ⟨rfl, ?_⟩
          (repeat' (first | (with_reducible exact Below.refl _ _) | (with_reducible assumption) | (with_reducible refine Below.alloc ?_ ?_ _) | (with_reducible refine Below.drew ?_) | (with_reducible refine Below.setCell ?_ ?_ _) | (with_reducible refine Below.trans ?_ (Below.mono (by assumption) ?_)) | go_size))
      · by_cases h3 : r' < r
        · have k1 : decide (wall ≥ r) = false := decide_eq_false h1
          have k2 : decide (wall ≤ r') = false := decide_eq_false h2
          have k3 : decide (r' < r) = true := decide_eq_true h3
          rw [if_neg (by omega)] at hP
          subst hP
          (refine wp_region_after (by kernel_rfl) (by kernel_rfl) ?_; (repeat (go_big_quiet_step (fail))); refine wpQuiet_nil ?_; intro wq hw0; obtain ⟨⟨wq0, hbq⟩, hw1⟩ := hw0; subst hw1; (try dsimp only))
          have zq := hbq.size
          have oRq := oR3.below hbq oR3.lt
          have oSq := oS3.below hbq oS3.lt
          have oNq := oN.below hbq oN.lt
          have p0 : wq.cell? ⟨w.heap.size, 0, none⟩ = some (.int .i64 t) := oSq.cell 0
          have p1 : wq.cell? ⟨w.heap.size, 1, none⟩ = some (.int .i64 r) := oSq.cell 1
          have q0 : wq.cell? ⟨w.heap.size + 1 + 1, 0, none⟩ = some (.int .i64 t') := oNq.cell 0
          have q1 : wq.cell? ⟨w.heap.size + 1 + 1, 1, none⟩ = some (.int .i64 r') := oNq.cell 1
          have d0 : wq.cell? ⟨w.heap.size + 1, 0, none⟩ = some (.int .i64 0) := oRq.cell 0
          have d1 : wq.cell? ⟨w.heap.size + 1, 1, none⟩ = some (.int .i64 0) := oRq.cell 1
          have e0 := oRq.free 0
          have e1 := oRq.free 1
          have Bq := B3.trans (hbq.mono (by omega))
          clear f0 f1
          go_wp2
          (try simp only [Exit.inBlock, Exit.then])
          refine bodyPost_ret_by (results_cell_row1 (by rfl) _ _ (w.heap.size + 1) _ (by rfl) (load_per ((oRq.store 0 _).store 1 _))) ?_ ?_
          · rfl
          refine ⟨rfl, ?_⟩
          (repeat' (first | (with_reducible exact Below.refl _ _) | (with_reducible assumption) | (with_reducible refine Below.alloc ?_ ?_ _) | (with_reducible refine Below.drew ?_) | (with_reducible refine Below.setCell ?_ ?_ _) | (with_reducible refine Below.trans ?_ (Below.mono (by assumption) ?_)) | go_size))
        · exfalso; omega
end Go.Proofs.Ytonhlejeedhpiaa
