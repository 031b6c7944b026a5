/-
  The walk of the statement AllenOne: exactly one relation holds between two valid periods. Conditions: the table of keywords reads as the program lays it (Env).
-/
import Derived.Test.YthiefmphkgopcaaDoorInvA
import Derived.Test.YthiefmphkgopcaaDoorTabM
import Derived.Test.YthiefmphkgopcaaDoorAl5
import Derived.Deep.RegionHeld3
import Derived.Test.YthiefmphkgopcaaDoorPerm
import Derived.WalkKit
import Derived.WalkSpells
import Derived.WalkLawsBesides
import Derived.Deep.QuietTactic
import Derived.BigQuiet
import Derived.Handy
import Derived.Lib.Hide
namespace Go.Proofs.YthiefmphkgopcaaDoor
open Go.RowKit

theorem rvalid_b1 (a b : Int) (w : World) : Calls Tryd.prog 13 #[.agg #[.int .i64 a, .int .i64 b]] w fun e w' => e = .returned (.bool (vld a b)) ∧ Below w.heap.size w w' := rvalid_any a b w

theorem hold4r {wr wA w' : World} {g1 g2 : Nat} {x y z u : Value} (h1 : wA.cell? ⟨g1, 0, none⟩ = some x) (h2 : wA.cell? ⟨g1, 1, none⟩ = some y) (h3 : wA.cell? ⟨g2, 0, none⟩ = some z) (h4 : wA.cell? ⟨g2, 1, none⟩ = some u)
    (hB : Below wr.heap.size wr wA) (l1 : g1 < wr.heap.size) (l2 : g2 < wr.heap.size) (hb : Below wA.heap.size wA w') :
    w'.cell? ⟨g1, 0, none⟩ = some x ∧ w'.cell? ⟨g1, 1, none⟩ = some y ∧ w'.cell? ⟨g2, 0, none⟩ = some z ∧ w'.cell? ⟨g2, 1, none⟩ = some u ∧ Below wr.heap.size wr w' := by
  have m1 := Nat.lt_of_lt_of_le l1 hB.size
  have m2 := Nat.lt_of_lt_of_le l2 hB.size
  exact ⟨(hb.cell (p := ⟨g1, 0, none⟩) m1).trans h1, (hb.cell (p := ⟨g1, 1, none⟩) m1).trans h2, (hb.cell (p := ⟨g2, 0, none⟩) m2).trans h3, (hb.cell (p := ⟨g2, 1, none⟩) m2).trans h4, hB.trans (hb.mono hB.size)⟩
/-- How many of the relations from -1 to k - 2 hold. -/
def cntR (a b c d : Int) (k : Nat) : Int := if bothV a b c d && decide (relR a b c d + 2 ≤ (k : Int)) then 1 else 0
theorem cntR_le (a b c d : Int) (k : Nat) : 0 ≤ cntR a b c d k ∧ cntR a b c d k ≤ 1 := by unfold cntR; split <;> omega
theorem cntR_step (a b c d : Int) (k : Nat) : cntR a b c d (k + 1) = cntR a b c d k + (if holdsR ((k : Int) - 1) a b c d then 1 else 0) := by
  unfold cntR holdsR
  cases bothV a b c d
  · rfl
  · simp only [Bool.true_and]
    by_cases h : relR a b c d = (k : Int) - 1
    · rw [beq_iff_eq.2 h, decide_eq_true (by omega), decide_eq_false (by omega)]; rfl
    · rw [beq_eq_false_iff_ne.2 h]
      by_cases h2 : relR a b c d + 2 ≤ (k : Int)
      · rw [decide_eq_true (by omega), decide_eq_true h2]; rfl
      · rw [decide_eq_false (by omega), decide_eq_false h2]; rfl

set_option linter.unusedSimpArgs false in
set_option maxRecDepth 100000 in
set_option maxHeartbeats 3200000 in
theorem law_one (a b c d : Int) (w : World) (henv : Env w) :
    Calls Tryd.prog 3 #[.agg #[.int .i64 a, .int .i64 b], .agg #[.int .i64 c, .int .i64 d]] w fun e w' => e = .returned (.bool true) ∧ Below w.heap.size w w' := by
  have oP : Own ((w.alloc (.cells #[.int .i64 a, .int .i64 b] 23)).alloc (.cells #[.int .i64 c, .int .i64 d] 23)) w.heap.size 23 #[.int .i64 a, .int .i64 b] := (Own.new w _ _).alloc _
  have oQ : Own ((w.alloc (.cells #[.int .i64 a, .int .i64 b] 23)).alloc (.cells #[.int .i64 c, .int .i64 d] 23)) (w.heap.size + 1) 23 #[.int .i64 c, .int .i64 d] := (by have := Own.new (w.alloc (.cells #[.int .i64 a, .int .i64 b] 23)) 23 #[.int .i64 c, .int .i64 d]; rw [World.size_alloc] at this; exact this)
  have oB : Below w.heap.size w ((w.alloc (.cells #[.int .i64 a, .int .i64 b] 23)).alloc (.cells #[.int .i64 c, .int .i64 d] 23)) := (by (repeat' (first | (with_reducible exact Below.refl _ _) | (with_reducible assumption) | (with_reducible refine Below.alloc ?_ ?_ _) | (with_reducible refine Below.drew ?_) | (with_reducible refine Below.setCell ?_ ?_ _) | (with_reducible refine Below.trans ?_ (Below.mono (by assumption) ?_)) | go_size)))
  go_enter Tryd.func3, Tryd.ntmps3
  go_wp2
  generalize (w.alloc (.cells #[.int .i64 a, .int .i64 b] 23)).alloc (.cells #[.int .i64 c, .int .i64 d] 23) = W at *
  go_loopw [5, 6] (fun n r wr => ∃ k : Nat, k ≤ 15 ∧ r = .int .i64 ((k : Int) - 1) ∧ n = .int .i64 (cntR a b c d k) ∧ Own wr w.heap.size 23 #[.int .i64 a, .int .i64 b] ∧ Own wr (w.heap.size + 1) 23 #[.int .i64 c, .int .i64 d] ∧ Below w.heap.size w wr) (fun _ r _ => (14 - intOf r).toNat)
  case atStart =>
    refine ⟨0, by omega, rfl, ?_, oP, oQ, oB⟩
    have l1 := relR_lt a b c d
    unfold cntR
    rw [decide_eq_false (by omega), Bool.and_false]
    rfl
  case round =>
    obtain ⟨k, hk, rfl, rfl, P, Q, hbr⟩ := hrel
    have hbz := hbr.size
    by_cases hlt : k < 15
    · have i1 : (k : Int) - 1 ≤ 13 := by omega
      have LP := P.lt
      have LQ := Q.lt
      have f0 : wr.cell? ⟨w.heap.size, 0, none⟩ = some (.int .i64 a) := P.cell 0
      have f1 : wr.cell? ⟨w.heap.size, 1, none⟩ = some (.int .i64 b) := P.cell 1
      have f2 : wr.cell? ⟨w.heap.size + 1, 0, none⟩ = some (.int .i64 c) := Q.cell 0
      have f3 : wr.cell? ⟨w.heap.size + 1, 1, none⟩ = some (.int .i64 d) := Q.cell 1
      have fB : Below wr.heap.size wr wr.drew := (Below.refl _ _).drew
      have hS := Lib.hid (cntR_step a b c d k)
      have HH := holds_any ((k : Int) - 1) a b c d
      have HR := rholds_any ((k : Int) - 1) a b c d
      generalize holdsR ((k : Int) - 1) a b c d = hv at *
      have hq : (hv != hv) = false := by simp
      go_wp2
      go_region_held3 (fun w' => w'.cell? ⟨w.heap.size, 0, none⟩ = some (.int .i64 a) ∧ w'.cell? ⟨w.heap.size, 1, none⟩ = some (.int .i64 b) ∧ w'.cell? ⟨w.heap.size + 1, 0, none⟩ = some (.int .i64 c) ∧ w'.cell? ⟨w.heap.size + 1, 1, none⟩ = some (.int .i64 d) ∧ Below wr.heap.size wr w')
        (first | exact ⟨f0, f1, f2, f3, fB⟩ | (go_split_ands; exact hold4r (by assumption) (by assumption) (by assumption) (by assumption) (by assumption) LP LQ hb))
        (first
          | (go_at_call 10; refine (HH _).mono ?_; rintro e w1 ⟨rfl, hb⟩)
          | (go_at_call 11; refine (HR _).mono ?_; rintro e w1 ⟨rfl, hb⟩))
      have hw : Below wr.heap.size wr w1 := by go_split_ands; assumption
      have P1 := P.below hw LP
      have Q1 := Q.below hw LQ
      have B1 := hbr.trans (hw.mono hbz)
      have p0 := P1.cell 0
      have p1 := P1.cell 1
      have q0 := Q1.cell 0
      have q1 := Q1.cell 1
      obtain ⟨hc0, hc1⟩ := cntR_le a b c d k
      generalize hcn : cntR a b c d k = n at *
      cases hv
      · go_wp2_with (go_at_call 10; refine (HH _).mono ?_; rintro e w2 ⟨rfl, hb2⟩)
        have P2 := P1.below hb2 P1.lt
        have Q2 := Q1.below hb2 Q1.lt
        have B2 := B1.trans (hb2.mono B1.size)
        go_roundw
        case rel => exact ⟨k + 1, by omega, by go_num, by rw [hS.out]; simp, P2, Q2, B2⟩
        case measure => simp only [intOf]; omega
      · go_wp2_with (go_at_call 10; refine (HH _).mono ?_; rintro e w2 ⟨rfl, hb2⟩)
        have P2 := P1.below hb2 P1.lt
        have Q2 := Q1.below hb2 Q1.lt
        have B2 := B1.trans (hb2.mono B1.size)
        go_roundw
        case rel => exact ⟨k + 1, by omega, by go_num, by rw [hS.out]; simp, P2, Q2, B2⟩
        case measure => simp only [intOf]; omega
    · have hk15 : k = 15 := by omega
      subst hk15
      have p0 := P.cell 0
      have p1 := P.cell 1
      have q0 := Q.cell 0
      have q1 := Q.cell 1
      have lr := relR_lt a b c d
      cases h1 : vld a b
      · have e1 : bothV a b c d = false := by unfold bothV; rw [h1]; rfl
        rw [show cntR a b c d 15 = 0 by unfold cntR; rw [e1]; rfl]
        go_wp2_with fail
        refine (rel_any _ _ _ _ _).mono ?_
        rw [e1, show relR a b c d = 0 by unfold relR; rw [e1]; rfl]
        rintro e w1 ⟨rfl, hb1⟩
        have P1 := P.below hb1 P.lt
        have B1 := hbr.trans (hb1.mono hbz)
        have pp0 := P1.cell 0
        have pp1 := P1.cell 1
        go_wp2_with fail
        refine (rvalid_b1 a b _).mono ?_
        rintro e w2 ⟨rfl, hb2⟩
        rw [h1]
        have B2 := B1.trans (hb2.mono B1.size)
        go_wp2_with fail
        refine wp_region_held_drew (S := fun _ => True) (by kernel_rfl) trivial (fun hHeld => ?_)
        (refine takeD (i := 0) (d := 60) (oi := _) (v := ?_) rfl rfl (by kernel_rfl) (by kernel_rfl) (by kernel_rfl) (fun _ _ _ h => h) (Or.inl ⟨by rfl, ?_⟩) (by assumption) ?_; rotate_left; (focus ((intro w hSw; (try dsimp only at hSw); go_simp) <;> (with_reducible rfl))); (try simp only [Act.put, List.setIfInBounds_toArray, List.set_cons_zero, List.set_cons_succ]))
        (refine takeD (i := 1) (d := 61) (oi := _) (v := ?_) rfl rfl (by kernel_rfl) (by kernel_rfl) (by kernel_rfl) (fun _ _ _ h => h) (Or.inl ⟨by rfl, ?_⟩) (by assumption) ?_; rotate_left; (focus ((intro w hSw; (try dsimp only at hSw); go_simp) <;> (with_reducible rfl))); (try simp only [Act.put, List.setIfInBounds_toArray, List.set_cons_zero, List.set_cons_succ]))
        (refine takeD (i := 2) (d := 62) (oi := _) (v := ?_) rfl rfl (by kernel_rfl) (by kernel_rfl) (by kernel_rfl) (fun _ _ _ h => h) (Or.inl ⟨by rfl, ?_⟩) (by assumption) ?_; rotate_left; (focus ((intro w hSw; (try dsimp only at hSw); go_simp) <;> (with_reducible rfl))); (try simp only [Act.put, List.setIfInBounds_toArray, List.set_cons_zero, List.set_cons_succ]))
        (refine takeD (i := 3) (d := 63) (oi := _) (v := undef) rfl rfl (by kernel_rfl) (by kernel_rfl) (by kernel_rfl) (fun _ _ _ h => h) (Or.inr ⟨by rfl, rfl⟩) (by assumption) ?_; (try simp only [Act.put, List.setIfInBounds_toArray, List.set_cons_zero, List.set_cons_succ]))
        (refine takeD (i := 4) (d := 64) (oi := _) (v := undef) rfl rfl (by kernel_rfl) (by kernel_rfl) (by kernel_rfl) (fun _ _ _ h => h) (Or.inr ⟨by rfl, rfl⟩) (by assumption) ?_; (try simp only [Act.put, List.setIfInBounds_toArray, List.set_cons_zero, List.set_cons_succ]))
        (refine takeD (i := 5) (d := 65) (oi := _) (v := undef) rfl rfl (by kernel_rfl) (by kernel_rfl) (by kernel_rfl) (fun _ _ _ h => h) (Or.inr ⟨by rfl, rfl⟩) (by assumption) ?_; (try simp only [Act.put, List.setIfInBounds_toArray, List.set_cons_zero, List.set_cons_succ]))
        (refine takeD (i := 6) (d := 66) (oi := _) (v := undef) rfl rfl (by kernel_rfl) (by kernel_rfl) (by kernel_rfl) (fun _ _ _ h => h) (Or.inr ⟨by rfl, rfl⟩) (by assumption) ?_; (try simp only [Act.put, List.setIfInBounds_toArray, List.set_cons_zero, List.set_cons_succ]))
        (refine takeD (i := 7) (d := 67) (oi := _) (v := undef) rfl rfl (by kernel_rfl) (by kernel_rfl) (by kernel_rfl) (fun _ _ _ h => h) (Or.inr ⟨by rfl, rfl⟩) (by assumption) ?_; (try simp only [Act.put, List.setIfInBounds_toArray, List.set_cons_zero, List.set_cons_succ]))
        (refine takeD (i := 8) (d := 68) (oi := _) (v := undef) rfl rfl (by kernel_rfl) (by kernel_rfl) (by kernel_rfl) (fun _ _ _ h => h) (Or.inr ⟨by rfl, rfl⟩) (by assumption) ?_; (try simp only [Act.put, List.setIfInBounds_toArray, List.set_cons_zero, List.set_cons_succ]))
        (refine takeD (i := 9) (d := 69) (oi := _) (v := undef) rfl rfl (by kernel_rfl) (by kernel_rfl) (by kernel_rfl) (fun _ _ _ h => h) (Or.inr ⟨by rfl, rfl⟩) (by assumption) ?_; (try simp only [Act.put, List.setIfInBounds_toArray, List.set_cons_zero, List.set_cons_succ]))
        (refine takeD (i := 10) (d := 70) (oi := _) (v := undef) rfl rfl (by kernel_rfl) (by kernel_rfl) (by kernel_rfl) (fun _ _ _ h => h) (Or.inr ⟨by rfl, rfl⟩) (by assumption) ?_; (try simp only [Act.put, List.setIfInBounds_toArray, List.set_cons_zero, List.set_cons_succ]))
        (refine takeD (i := 11) (d := 71) (oi := _) (v := undef) rfl rfl (by kernel_rfl) (by kernel_rfl) (by kernel_rfl) (fun _ _ _ h => h) (Or.inr ⟨by rfl, rfl⟩) (by assumption) ?_; (try simp only [Act.put, List.setIfInBounds_toArray, List.set_cons_zero, List.set_cons_succ]))
        (refine takeD (i := 12) (d := 72) (oi := _) (v := undef) rfl rfl (by kernel_rfl) (by kernel_rfl) (by kernel_rfl) (fun _ _ _ h => h) (Or.inr ⟨by rfl, rfl⟩) (by assumption) ?_; (try simp only [Act.put, List.setIfInBounds_toArray, List.set_cons_zero, List.set_cons_succ]))
        (refine takeD (i := 13) (d := 73) (oi := _) (v := undef) rfl rfl (by kernel_rfl) (by kernel_rfl) (by kernel_rfl) (fun _ _ _ h => h) (Or.inr ⟨by rfl, rfl⟩) (by assumption) ?_; (try simp only [Act.put, List.setIfInBounds_toArray, List.set_cons_zero, List.set_cons_succ]))
        (refine takeD (i := 14) (d := 74) (oi := _) (v := ?_) rfl rfl (by kernel_rfl) (by kernel_rfl) (by kernel_rfl) (fun _ _ _ h => h) (Or.inl ⟨by rfl, ?_⟩) (by assumption) ?_; rotate_left; (focus ((intro w hSw; (try dsimp only at hSw); go_simp) <;> (with_reducible rfl))); (try simp only [Act.put, List.setIfInBounds_toArray, List.set_cons_zero, List.set_cons_succ]))
        (refine takeD (i := 15) (d := 75) (oi := _) (v := ?_) rfl rfl (by kernel_rfl) (by kernel_rfl) (by kernel_rfl) (fun _ _ _ h => h) (Or.inl ⟨by rfl, ?_⟩) (by assumption) ?_; rotate_left; (focus ((intro w hSw; (try dsimp only at hSw); go_simp) <;> (with_reducible rfl))); (try simp only [Act.put, List.setIfInBounds_toArray, List.set_cons_zero, List.set_cons_succ]))
        refine wpAnyH_ready (rs := [16]) (by kernel_rfl) (by simp) ?_
        refine AllReadyH.cons (o := _) rfl (fun K hK => ?_) AllReadyH.nil
        go_simp
        (go_at_call 15; refine (awake_any _ (henv.step B2.drew)).mono ?_; rintro e wx ⟨rfl, hb⟩; go_wp2_with fail)
        refine hK.out _ _ (by (try dsimp only); all_goals trivial) (fun hHeld => ?_)
        clear hK
        (try simp only [Act.put, List.setIfInBounds_toArray, List.set_cons_zero, List.set_cons_succ])
        (refine takeD (i := 17) (d := 77) (oi := _) (v := ?_) rfl rfl (by kernel_rfl) (by kernel_rfl) (by kernel_rfl) (fun _ _ _ h => h) (Or.inl ⟨by rfl, ?_⟩) (by assumption) ?_; rotate_left; (focus ((intro w hSw; (try dsimp only at hSw); go_simp) <;> (with_reducible rfl))); (try simp only [Act.put, List.setIfInBounds_toArray, List.set_cons_zero, List.set_cons_succ]))
        (refine takeD (i := 18) (d := 4) (oi := _) (v := ?_) rfl rfl (by kernel_rfl) (by kernel_rfl) (by kernel_rfl) (fun _ _ _ h => h) (Or.inl ⟨by rfl, ?_⟩) (by assumption) ?_; rotate_left; (focus ((intro w hSw; (try dsimp only at hSw); go_simp) <;> (with_reducible rfl))); (try simp only [Act.put, List.setIfInBounds_toArray, List.set_cons_zero, List.set_cons_succ]))
        refine wpAnyH_done (by kernel_rfl) ?_ _
        go_wp2_with fail
        go_ret
        exact ⟨rfl, B2.drew.trans (hb.mono B2.drew.size)⟩
      · cases h2 : vld c d
        · have e1 : bothV a b c d = false := by unfold bothV; rw [h1, h2]; rfl
          rw [show cntR a b c d 15 = 0 by unfold cntR; rw [e1]; rfl]
          go_wp2_with fail
          refine (rel_any _ _ _ _ _).mono ?_
          rw [e1, show relR a b c d = 0 by unfold relR; rw [e1]; rfl]
          rintro e w1 ⟨rfl, hb1⟩
          have P1 := P.below hb1 P.lt
          have Q1 := Q.below hb1 Q.lt
          have B1 := hbr.trans (hb1.mono hbz)
          have pp0 := P1.cell 0
          have pp1 := P1.cell 1
          go_wp2_with fail
          refine (rvalid_b1 a b _).mono ?_
          rintro e w2 ⟨rfl, hb2⟩
          rw [h1]
          have Q2 := Q1.below hb2 Q1.lt
          have B2 := B1.trans (hb2.mono B1.size)
          have qq0 := Q2.cell 0
          have qq1 := Q2.cell 1
          go_wp2_with fail
          refine (rvalid_b1 c d _).mono ?_
          rintro e w3 ⟨rfl, hb3⟩
          rw [h2]
          have B3 := B2.trans (hb3.mono B2.size)
          go_wp2_with fail
          refine wp_region_held_drew (S := fun _ => True) (by kernel_rfl) trivial (fun hHeld => ?_)
          (refine takeD (i := 0) (d := 60) (oi := _) (v := ?_) rfl rfl (by kernel_rfl) (by kernel_rfl) (by kernel_rfl) (fun _ _ _ h => h) (Or.inl ⟨by rfl, ?_⟩) (by assumption) ?_; rotate_left; (focus ((intro w hSw; (try dsimp only at hSw); go_simp) <;> (with_reducible rfl))); (try simp only [Act.put, List.setIfInBounds_toArray, List.set_cons_zero, List.set_cons_succ]))
          (refine takeD (i := 1) (d := 61) (oi := _) (v := ?_) rfl rfl (by kernel_rfl) (by kernel_rfl) (by kernel_rfl) (fun _ _ _ h => h) (Or.inl ⟨by rfl, ?_⟩) (by assumption) ?_; rotate_left; (focus ((intro w hSw; (try dsimp only at hSw); go_simp) <;> (with_reducible rfl))); (try simp only [Act.put, List.setIfInBounds_toArray, List.set_cons_zero, List.set_cons_succ]))
          (refine takeD (i := 2) (d := 62) (oi := _) (v := ?_) rfl rfl (by kernel_rfl) (by kernel_rfl) (by kernel_rfl) (fun _ _ _ h => h) (Or.inl ⟨by rfl, ?_⟩) (by assumption) ?_; rotate_left; (focus ((intro w hSw; (try dsimp only at hSw); go_simp) <;> (with_reducible rfl))); (try simp only [Act.put, List.setIfInBounds_toArray, List.set_cons_zero, List.set_cons_succ]))
          (refine takeD (i := 3) (d := 63) (oi := _) (v := undef) rfl rfl (by kernel_rfl) (by kernel_rfl) (by kernel_rfl) (fun _ _ _ h => h) (Or.inr ⟨by rfl, rfl⟩) (by assumption) ?_; (try simp only [Act.put, List.setIfInBounds_toArray, List.set_cons_zero, List.set_cons_succ]))
          (refine takeD (i := 4) (d := 64) (oi := _) (v := undef) rfl rfl (by kernel_rfl) (by kernel_rfl) (by kernel_rfl) (fun _ _ _ h => h) (Or.inr ⟨by rfl, rfl⟩) (by assumption) ?_; (try simp only [Act.put, List.setIfInBounds_toArray, List.set_cons_zero, List.set_cons_succ]))
          (refine takeD (i := 5) (d := 65) (oi := _) (v := undef) rfl rfl (by kernel_rfl) (by kernel_rfl) (by kernel_rfl) (fun _ _ _ h => h) (Or.inr ⟨by rfl, rfl⟩) (by assumption) ?_; (try simp only [Act.put, List.setIfInBounds_toArray, List.set_cons_zero, List.set_cons_succ]))
          (refine takeD (i := 6) (d := 66) (oi := _) (v := undef) rfl rfl (by kernel_rfl) (by kernel_rfl) (by kernel_rfl) (fun _ _ _ h => h) (Or.inr ⟨by rfl, rfl⟩) (by assumption) ?_; (try simp only [Act.put, List.setIfInBounds_toArray, List.set_cons_zero, List.set_cons_succ]))
          (refine takeD (i := 7) (d := 67) (oi := _) (v := undef) rfl rfl (by kernel_rfl) (by kernel_rfl) (by kernel_rfl) (fun _ _ _ h => h) (Or.inr ⟨by rfl, rfl⟩) (by assumption) ?_; (try simp only [Act.put, List.setIfInBounds_toArray, List.set_cons_zero, List.set_cons_succ]))
          (refine takeD (i := 8) (d := 68) (oi := _) (v := undef) rfl rfl (by kernel_rfl) (by kernel_rfl) (by kernel_rfl) (fun _ _ _ h => h) (Or.inr ⟨by rfl, rfl⟩) (by assumption) ?_; (try simp only [Act.put, List.setIfInBounds_toArray, List.set_cons_zero, List.set_cons_succ]))
          (refine takeD (i := 9) (d := 69) (oi := _) (v := undef) rfl rfl (by kernel_rfl) (by kernel_rfl) (by kernel_rfl) (fun _ _ _ h => h) (Or.inr ⟨by rfl, rfl⟩) (by assumption) ?_; (try simp only [Act.put, List.setIfInBounds_toArray, List.set_cons_zero, List.set_cons_succ]))
          (refine takeD (i := 10) (d := 70) (oi := _) (v := undef) rfl rfl (by kernel_rfl) (by kernel_rfl) (by kernel_rfl) (fun _ _ _ h => h) (Or.inr ⟨by rfl, rfl⟩) (by assumption) ?_; (try simp only [Act.put, List.setIfInBounds_toArray, List.set_cons_zero, List.set_cons_succ]))
          (refine takeD (i := 11) (d := 71) (oi := _) (v := undef) rfl rfl (by kernel_rfl) (by kernel_rfl) (by kernel_rfl) (fun _ _ _ h => h) (Or.inr ⟨by rfl, rfl⟩) (by assumption) ?_; (try simp only [Act.put, List.setIfInBounds_toArray, List.set_cons_zero, List.set_cons_succ]))
          (refine takeD (i := 12) (d := 72) (oi := _) (v := undef) rfl rfl (by kernel_rfl) (by kernel_rfl) (by kernel_rfl) (fun _ _ _ h => h) (Or.inr ⟨by rfl, rfl⟩) (by assumption) ?_; (try simp only [Act.put, List.setIfInBounds_toArray, List.set_cons_zero, List.set_cons_succ]))
          (refine takeD (i := 13) (d := 73) (oi := _) (v := undef) rfl rfl (by kernel_rfl) (by kernel_rfl) (by kernel_rfl) (fun _ _ _ h => h) (Or.inr ⟨by rfl, rfl⟩) (by assumption) ?_; (try simp only [Act.put, List.setIfInBounds_toArray, List.set_cons_zero, List.set_cons_succ]))
          (refine takeD (i := 14) (d := 74) (oi := _) (v := ?_) rfl rfl (by kernel_rfl) (by kernel_rfl) (by kernel_rfl) (fun _ _ _ h => h) (Or.inl ⟨by rfl, ?_⟩) (by assumption) ?_; rotate_left; (focus ((intro w hSw; (try dsimp only at hSw); go_simp) <;> (with_reducible rfl))); (try simp only [Act.put, List.setIfInBounds_toArray, List.set_cons_zero, List.set_cons_succ]))
          (refine takeD (i := 15) (d := 75) (oi := _) (v := ?_) rfl rfl (by kernel_rfl) (by kernel_rfl) (by kernel_rfl) (fun _ _ _ h => h) (Or.inl ⟨by rfl, ?_⟩) (by assumption) ?_; rotate_left; (focus ((intro w hSw; (try dsimp only at hSw); go_simp) <;> (with_reducible rfl))); (try simp only [Act.put, List.setIfInBounds_toArray, List.set_cons_zero, List.set_cons_succ]))
          refine wpAnyH_ready (rs := [16]) (by kernel_rfl) (by simp) ?_
          refine AllReadyH.cons (o := _) rfl (fun K hK => ?_) AllReadyH.nil
          go_simp
          (go_at_call 15; refine (awake_any _ (henv.step B3.drew)).mono ?_; rintro e wx ⟨rfl, hb⟩; go_wp2_with fail)
          refine hK.out _ _ (by (try dsimp only); all_goals trivial) (fun hHeld => ?_)
          clear hK
          (try simp only [Act.put, List.setIfInBounds_toArray, List.set_cons_zero, List.set_cons_succ])
          (refine takeD (i := 17) (d := 77) (oi := _) (v := ?_) rfl rfl (by kernel_rfl) (by kernel_rfl) (by kernel_rfl) (fun _ _ _ h => h) (Or.inl ⟨by rfl, ?_⟩) (by assumption) ?_; rotate_left; (focus ((intro w hSw; (try dsimp only at hSw); go_simp) <;> (with_reducible rfl))); (try simp only [Act.put, List.setIfInBounds_toArray, List.set_cons_zero, List.set_cons_succ]))
          (refine takeD (i := 18) (d := 4) (oi := _) (v := ?_) rfl rfl (by kernel_rfl) (by kernel_rfl) (by kernel_rfl) (fun _ _ _ h => h) (Or.inl ⟨by rfl, ?_⟩) (by assumption) ?_; rotate_left; (focus ((intro w hSw; (try dsimp only at hSw); go_simp) <;> (with_reducible rfl))); (try simp only [Act.put, List.setIfInBounds_toArray, List.set_cons_zero, List.set_cons_succ]))
          refine wpAnyH_done (by kernel_rfl) ?_ _
          go_wp2_with fail
          go_ret
          exact ⟨rfl, B3.drew.trans (hb.mono B3.drew.size)⟩
        · have e1 : bothV a b c d = true := by unfold bothV; rw [h1, h2]; rfl
          have e2 : bothV c d a b = true := by unfold bothV; rw [h1, h2]; rfl
          have g1 : holdsR (relR a b c d) a b c d = true := by unfold holdsR; rw [e1]; simp
          have g2 : holdsR (12 - relR a b c d) c d a b = true := by unfold holdsR; rw [e2, relR_inv h1 h2]; simp
          have g3 : invR (relR a b c d) = 12 - relR a b c d := by unfold invR; rw [if_pos ((isRel_iff _).2 lr)]
          rw [show cntR a b c d 15 = 1 by unfold cntR; rw [e1, decide_eq_true (by omega)]; rfl]
          go_wp2_with fail
          refine (rel_any _ _ _ _ _).mono ?_
          rw [e1]
          have HA := holds_any (relR a b c d) a b c d
          have HI := inv_b (relR a b c d)
          have HB := holds_any (12 - relR a b c d) c d a b
          rw [g1] at HA
          rw [g3] at HI
          rw [g2] at HB
          generalize relR a b c d = x at *
          generalize 12 - x = y at *
          rintro e w1 ⟨rfl, hb1⟩
          have P1 := P.below hb1 P.lt
          have Q1 := Q.below hb1 Q.lt
          have B1 := hbr.trans (hb1.mono hbz)
          have pp0 := P1.cell 0
          have pp1 := P1.cell 1
          go_wp2_with fail
          refine (rvalid_b1 a b _).mono ?_
          rintro e w2 ⟨rfl, hb2⟩
          rw [h1]
          have P2 := P1.below hb2 P1.lt
          have Q2 := Q1.below hb2 Q1.lt
          have B2 := B1.trans (hb2.mono B1.size)
          have qq0 := Q2.cell 0
          have qq1 := Q2.cell 1
          go_wp2_with fail
          refine (rvalid_b1 c d _).mono ?_
          rintro e w3 ⟨rfl, hb3⟩
          rw [h2]
          have P3 := P2.below hb3 P2.lt
          have Q3 := Q2.below hb3 Q2.lt
          have B3 := B2.trans (hb3.mono B2.size)
          have z0 : w3.cell? ⟨w.heap.size, 0, none⟩ = some (.int .i64 a) := P3.cell 0
          have z1 : w3.cell? ⟨w.heap.size, 1, none⟩ = some (.int .i64 b) := P3.cell 1
          have z2 : w3.cell? ⟨w.heap.size + 1, 0, none⟩ = some (.int .i64 c) := Q3.cell 0
          have z3 : w3.cell? ⟨w.heap.size + 1, 1, none⟩ = some (.int .i64 d) := Q3.cell 1
          have zB : Below w3.heap.size w3 w3.drew := (Below.refl _ _).drew
          have LP := P3.lt
          have LQ := Q3.lt
          go_wp2_with fail
          go_region_held3 (fun w' => w'.cell? ⟨w.heap.size, 0, none⟩ = some (.int .i64 a) ∧ w'.cell? ⟨w.heap.size, 1, none⟩ = some (.int .i64 b) ∧ w'.cell? ⟨w.heap.size + 1, 0, none⟩ = some (.int .i64 c) ∧ w'.cell? ⟨w.heap.size + 1, 1, none⟩ = some (.int .i64 d) ∧ Below w3.heap.size w3 w')
            (first | exact ⟨z0, z1, z2, z3, zB⟩ | (go_split_ands; exact hold4r (by assumption) (by assumption) (by assumption) (by assumption) (by assumption) LP LQ hb))
            (first
              | (go_at_call_of 10 x; refine (HA _).mono ?_; rintro e wx ⟨rfl, hb⟩)
              | (go_at_call_of 10 y; refine (HB _).mono ?_; rintro e wx ⟨rfl, hb⟩)
              | (go_at_call 14; refine (HI _).mono ?_; rintro e wx ⟨rfl, hb⟩)
              | (go_at_call 15; go_split_ands; refine (awake_any _ (henv.step (B3.trans (Below.mono (by assumption) B3.size)))).mono ?_; rintro e wx ⟨rfl, hb⟩))
          all_goals
            have hfin : Below w3.heap.size w3 wx := by go_split_ands; assumption
            go_wp2_with fail
            go_ret
            exact ⟨rfl, B3.trans (hfin.mono B3.size)⟩
end Go.Proofs.YthiefmphkgopcaaDoor
