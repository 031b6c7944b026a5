/-
  The walk of the statement AllenComposes: the relation of p to r is among the compositions of those of p to q and of q to r. Conditions: the table of keywords reads as the program lays it (Env).
-/
import Derived.Test.YthiefmphkgopcaaDoorInvA
import Derived.WalkKit
import Derived.WalkSpells
import Derived.WalkLawsBesides
import Derived.Deep.QuietTactic
import Derived.BigQuiet
import Derived.Handy
import Derived.Lib.Hide
namespace Go.Proofs.YthiefmphkgopcaaDoor
open Go.RowKit

theorem rvalid_b (a b : Int) (w : World) : Calls Tryd.prog 13 #[.agg #[.int .i64 a, .int .i64 b]] w fun e w' => e = .returned (.bool (vld a b)) ∧ Below w.heap.size w w' := rvalid_any a b w

set_option maxRecDepth 100000 in
set_option maxHeartbeats 3200000 in
theorem law_composes_no (a b c d e f : Int) (w : World) (henv : Env w) (hno : ¬ (vld a b = true ∧ vld c d = true ∧ vld e f = true)) :
    Calls Tryd.prog 5 #[.agg #[.int .i64 a, .int .i64 b], .agg #[.int .i64 c, .int .i64 d], .agg #[.int .i64 e, .int .i64 f]] w fun e w' => e = .returned (.bool true) ∧ Below w.heap.size w w' := by
  have oP : Own (((w.alloc (.cells #[.int .i64 a, .int .i64 b] 23)).alloc (.cells #[.int .i64 c, .int .i64 d] 23)).alloc (.cells #[.int .i64 e, .int .i64 f] 23)) w.heap.size 23 #[.int .i64 a, .int .i64 b] := ((Own.new w _ _).alloc _).alloc _
  have oQ : Own (((w.alloc (.cells #[.int .i64 a, .int .i64 b] 23)).alloc (.cells #[.int .i64 c, .int .i64 d] 23)).alloc (.cells #[.int .i64 e, .int .i64 f] 23)) (w.heap.size + 1) 23 #[.int .i64 c, .int .i64 d] := (by have := Own.new (w.alloc (.cells #[.int .i64 a, .int .i64 b] 23)) 23 #[.int .i64 c, .int .i64 d]; rw [World.size_alloc] at this; exact this.alloc _)
  have oR : Own (((w.alloc (.cells #[.int .i64 a, .int .i64 b] 23)).alloc (.cells #[.int .i64 c, .int .i64 d] 23)).alloc (.cells #[.int .i64 e, .int .i64 f] 23)) (w.heap.size + 1 + 1) 23 #[.int .i64 e, .int .i64 f] := (by have := Own.new ((w.alloc (.cells #[.int .i64 a, .int .i64 b] 23)).alloc (.cells #[.int .i64 c, .int .i64 d] 23)) 23 #[.int .i64 e, .int .i64 f]; simp only [World.size_alloc] at this; exact this)
  have oB : Below w.heap.size w (((w.alloc (.cells #[.int .i64 a, .int .i64 b] 23)).alloc (.cells #[.int .i64 c, .int .i64 d] 23)).alloc (.cells #[.int .i64 e, .int .i64 f] 23)) := (by (repeat' (first | (with_reducible exact Below.refl _ _) | (with_reducible assumption) | (with_reducible refine Below.alloc ?_ ?_ _) | (with_reducible refine Below.drew ?_) | (with_reducible refine Below.setCell ?_ ?_ _) | (with_reducible refine Below.trans ?_ (Below.mono (by assumption) ?_)) | go_size)))
  go_enter Tryd.func5, Tryd.ntmps5
  go_wp2_with fail
  generalize ((w.alloc (.cells #[.int .i64 a, .int .i64 b] 23)).alloc (.cells #[.int .i64 c, .int .i64 d] 23)).alloc (.cells #[.int .i64 e, .int .i64 f] 23) = W at *
  have LP := oP.lt
  have LQ := oQ.lt
  have LR := oR.lt
  refine (rel_any _ _ _ _ _).mono ?_
  rintro e9 w1 ⟨rfl, hb1⟩
  have P1 := oP.below hb1 LP
  have Q1 := oQ.below hb1 LQ
  have R1 := oR.below hb1 LR
  have B1 := oB.trans (hb1.mono oB.size)
  have p0 := P1.cell 0
  have p1 := P1.cell 1
  have q0 := Q1.cell 0
  have q1 := Q1.cell 1
  have r0 := R1.cell 0
  have r1 := R1.cell 1
  go_wp2_with fail
  refine (rel_any _ _ _ _ _).mono ?_
  rintro e9 w2 ⟨rfl, hb2⟩
  have P2 := P1.below hb2 P1.lt
  have Q2 := Q1.below hb2 Q1.lt
  have R2 := R1.below hb2 R1.lt
  have B2 := B1.trans (hb2.mono B1.size)
  clear p0 p1 q0 q1 r0 r1
  have p0 := P2.cell 0
  have p1 := P2.cell 1
  have q0 := Q2.cell 0
  have q1 := Q2.cell 1
  have r0 := R2.cell 0
  have r1 := R2.cell 1
  go_wp2_with fail
  refine (rel_any _ _ _ _ _).mono ?_
  rintro e9 w3 ⟨rfl, hb3⟩
  have P3 := P2.below hb3 P2.lt
  have Q3 := Q2.below hb3 Q2.lt
  have R3 := R2.below hb3 R2.lt
  have B3 := B2.trans (hb3.mono B2.size)
  clear p0 p1 q0 q1 r0 r1
  have p0 := P3.cell 0
  have p1 := P3.cell 1
  have q0 := Q3.cell 0
  have q1 := Q3.cell 1
  have r0 := R3.cell 0
  have r1 := R3.cell 1
  generalize relR a b c d = x1
  generalize relR c d e f = x2
  generalize relR a b e f = x3
  cases h1 : vld a b
  · rw [show bothV a b c d = false by unfold bothV; rw [h1]; rfl]
    generalize bothV c d e f = y2
    generalize bothV a b e f = y3
    go_wp2_with fail
    refine (rvalid_b a b _).mono ?_
    rintro e9 wa ⟨rfl, hba⟩
    rw [h1]
    have BA := B3.trans (hba.mono B3.size)
    go_wp2_with fail
    refine (awake_any _ (henv.step BA)).mono ?_
    rintro e9 wd ⟨rfl, hbd⟩
    go_wp2_with fail
    go_ret
    exact ⟨rfl, BA.trans (hbd.mono BA.size)⟩
  · cases h2 : vld c d
    · rw [show bothV a b c d = false by unfold bothV; rw [h1, h2]; rfl]
      generalize bothV c d e f = y2
      generalize bothV a b e f = y3
      go_wp2_with fail
      refine (rvalid_b a b _).mono ?_
      rintro e9 wa ⟨rfl, hba⟩
      rw [h1]
      have BA := B3.trans (hba.mono B3.size)
      have QA := Q3.below hba Q3.lt
      have aq0 := QA.cell 0
      have aq1 := QA.cell 1
      go_wp2_with fail
      refine (rvalid_b c d _).mono ?_
      rintro e9 wb ⟨rfl, hbb⟩
      rw [h2]
      have BB := BA.trans (hbb.mono BA.size)
      go_wp2_with fail
      refine (awake_any _ (henv.step BB)).mono ?_
      rintro e9 wd ⟨rfl, hbd⟩
      go_wp2_with fail
      go_ret
      exact ⟨rfl, BB.trans (hbd.mono BB.size)⟩
    · have h3 : vld e f = false := by
        cases h : vld e f
        · rfl
        · exact absurd ⟨h1, h2, h⟩ hno
      rw [show bothV a b c d = true by unfold bothV; rw [h1, h2]; rfl, show bothV c d e f = false by unfold bothV; rw [h2, h3]; rfl]
      generalize bothV a b e f = y3
      go_wp2_with fail
      refine (rvalid_b a b _).mono ?_
      rintro e9 wa ⟨rfl, hba⟩
      rw [h1]
      have BA := B3.trans (hba.mono B3.size)
      have QA := Q3.below hba Q3.lt
      have RA := R3.below hba R3.lt
      have aq0 := QA.cell 0
      have aq1 := QA.cell 1
      go_wp2_with fail
      refine (rvalid_b c d _).mono ?_
      rintro e9 wb ⟨rfl, hbb⟩
      rw [h2]
      have BB := BA.trans (hbb.mono BA.size)
      have RB := RA.below hbb RA.lt
      have br0 := RB.cell 0
      have br1 := RB.cell 1
      go_wp2_with fail
      refine (rvalid_b e f _).mono ?_
      rintro e9 wc ⟨rfl, hbc⟩
      rw [h3]
      have BC := BB.trans (hbc.mono BB.size)
      go_wp2_with fail
      refine (awake_any _ (henv.step BC)).mono ?_
      rintro e9 wd ⟨rfl, hbd⟩
      go_wp2_with fail
      go_ret
      exact ⟨rfl, BC.trans (hbd.mono BC.size)⟩

theorem cmp_has {a b c d e f : Int} (h1 : vld a b = true) (h2 : vld c d = true) (h3 : vld e f = true) : relR a b e f ∈ cmpL (relR a b c d) (relR c d e f) := by
  have l1 := relR_lt a b c d
  have l2 := relR_lt c d e f
  have l3 := relR_lt a b e f
  unfold cmpL
  rw [(isRel_iff _).2 l1, (isRel_iff _).2 l2]
  exact (mb_mem _ _).2 ⟨l3.1, l3.2, tb_sound h1 h2 h3⟩

set_option maxRecDepth 100000 in
set_option maxHeartbeats 3200000 in
theorem law_composes_yes (a b c d e f : Int) (w : World) (henv : Env w) (h1 : vld a b = true) (h2 : vld c d = true) (h3 : vld e f = true) :
    Calls Tryd.prog 5 #[.agg #[.int .i64 a, .int .i64 b], .agg #[.int .i64 c, .int .i64 d], .agg #[.int .i64 e, .int .i64 f]] w fun e w' => e = .returned (.bool true) ∧ Below w.heap.size w w' := by
  have oP : Own (((w.alloc (.cells #[.int .i64 a, .int .i64 b] 23)).alloc (.cells #[.int .i64 c, .int .i64 d] 23)).alloc (.cells #[.int .i64 e, .int .i64 f] 23)) w.heap.size 23 #[.int .i64 a, .int .i64 b] := ((Own.new w _ _).alloc _).alloc _
  have oQ : Own (((w.alloc (.cells #[.int .i64 a, .int .i64 b] 23)).alloc (.cells #[.int .i64 c, .int .i64 d] 23)).alloc (.cells #[.int .i64 e, .int .i64 f] 23)) (w.heap.size + 1) 23 #[.int .i64 c, .int .i64 d] := (by have := Own.new (w.alloc (.cells #[.int .i64 a, .int .i64 b] 23)) 23 #[.int .i64 c, .int .i64 d]; rw [World.size_alloc] at this; exact this.alloc _)
  have oR : Own (((w.alloc (.cells #[.int .i64 a, .int .i64 b] 23)).alloc (.cells #[.int .i64 c, .int .i64 d] 23)).alloc (.cells #[.int .i64 e, .int .i64 f] 23)) (w.heap.size + 1 + 1) 23 #[.int .i64 e, .int .i64 f] := (by have := Own.new ((w.alloc (.cells #[.int .i64 a, .int .i64 b] 23)).alloc (.cells #[.int .i64 c, .int .i64 d] 23)) 23 #[.int .i64 e, .int .i64 f]; simp only [World.size_alloc] at this; exact this)
  have oB : Below w.heap.size w (((w.alloc (.cells #[.int .i64 a, .int .i64 b] 23)).alloc (.cells #[.int .i64 c, .int .i64 d] 23)).alloc (.cells #[.int .i64 e, .int .i64 f] 23)) := (by (repeat' (first | (with_reducible exact Below.refl _ _) | (with_reducible assumption) | (with_reducible refine Below.alloc ?_ ?_ _) | (with_reducible refine Below.drew ?_) | (with_reducible refine Below.setCell ?_ ?_ _) | (with_reducible refine Below.trans ?_ (Below.mono (by assumption) ?_)) | go_size)))
  go_enter Tryd.func5, Tryd.ntmps5
  go_wp2_with fail
  generalize ((w.alloc (.cells #[.int .i64 a, .int .i64 b] 23)).alloc (.cells #[.int .i64 c, .int .i64 d] 23)).alloc (.cells #[.int .i64 e, .int .i64 f] 23) = W at *
  have LP := oP.lt
  have LQ := oQ.lt
  have LR := oR.lt
  refine (rel_any _ _ _ _ _).mono ?_
  rintro e9 w1 ⟨rfl, hb1⟩
  have P1 := oP.below hb1 LP
  have Q1 := oQ.below hb1 LQ
  have R1 := oR.below hb1 LR
  have B1 := oB.trans (hb1.mono oB.size)
  have p0 := P1.cell 0
  have p1 := P1.cell 1
  have q0 := Q1.cell 0
  have q1 := Q1.cell 1
  have r0 := R1.cell 0
  have r1 := R1.cell 1
  go_wp2_with fail
  refine (rel_any _ _ _ _ _).mono ?_
  rintro e9 w2 ⟨rfl, hb2⟩
  have P2 := P1.below hb2 P1.lt
  have Q2 := Q1.below hb2 Q1.lt
  have R2 := R1.below hb2 R1.lt
  have B2 := B1.trans (hb2.mono B1.size)
  clear p0 p1 q0 q1 r0 r1
  have p0 := P2.cell 0
  have p1 := P2.cell 1
  have q0 := Q2.cell 0
  have q1 := Q2.cell 1
  have r0 := R2.cell 0
  have r1 := R2.cell 1
  go_wp2_with fail
  refine (rel_any _ _ _ _ _).mono ?_
  rintro e9 w3 ⟨rfl, hb3⟩
  have P3 := P2.below hb3 P2.lt
  have Q3 := Q2.below hb3 Q2.lt
  have R3 := R2.below hb3 R2.lt
  have B3 := B2.trans (hb3.mono B2.size)
  clear p0 p1 q0 q1 r0 r1
  have p0 := P3.cell 0
  have p1 := P3.cell 1
  have q0 := Q3.cell 0
  have q1 := Q3.cell 1
  have r0 := R3.cell 0
  have r1 := R3.cell 1
  have hmem := Lib.hid (cmp_has h1 h2 h3)
  rw [show bothV a b c d = true by unfold bothV; rw [h1, h2]; rfl, show bothV c d e f = true by unfold bothV; rw [h2, h3]; rfl, show bothV a b e f = true by unfold bothV; rw [h1, h3]; rfl]
  generalize relR a b c d = x1 at *
  generalize relR c d e f = x2 at *
  generalize relR a b e f = x3 at *
  go_wp2_with fail
  refine (cmp_rel x1 x2 _).mono ?_
  rintro e9 w4 ⟨v, rfl, hv, hb4⟩
  have B4 := B3.trans (hb4.mono B3.size)
  have hv0 := hv
  obtain ⟨A, cc, rfl, hl, _⟩ := hv
  generalize cmpL x1 x2 = l at *
  go_wp2_with fail
  go_loopw [14, 15] (fun f i wr => ∃ k : Nat, k ≤ l.length ∧ i = .int .i64 k ∧ f = .bool (decide (x3 ∈ l.take k)) ∧ w4 = wr) (fun _ i _ => l.length - (intOf i).toNat)
  case atStart => exact ⟨0, by omega, rfl, by simp, rfl⟩
  case round =>
    obtain ⟨k, hk, rfl, rfl, rfl⟩ := hrel
    by_cases hlt : k < l.length
    · have hx := List.getElem?_eq_getElem hlt
      have hT := Lib.hid (List.take_succ_eq_append_getElem hlt)
      generalize l[k] = y at hx hT
      obtain ⟨ad, rfl, _, _, c1⟩ := hv0.at hx
      cases hf : decide (x3 ∈ l.take k)
      · have hT2 : Hid (decide (x3 ∈ l.take (k + 1)) = (y == x3)) := Lib.hid (by
          rw [hT.out]
          rw [decide_eq_false_iff_not] at hf
          by_cases e : y = x3
          · subst e; simp
          · simp [hf, e, Ne.symm e])
        clear hT
        go_wp2
        go_roundw
        case rel => exact ⟨k + 1, by omega, by go_num, by rw [hT2.out], by first | trivial | rfl⟩
        case measure => simp [intOf]; omega
      · have hT2 : Hid (decide (x3 ∈ l.take (k + 1)) = true) := Lib.hid (by
          rw [hT.out]
          rw [decide_eq_true_iff] at hf ⊢
          exact List.mem_append_left _ hf)
        clear hT
        go_wp2
        go_roundw
        case rel => exact ⟨k + 1, by omega, by go_num, by rw [hT2.out], by first | trivial | rfl⟩
        case measure => simp [intOf]; omega
    · have hkl : k = l.length := by omega
      subst hkl
      have hd : decide (x3 ∈ l.take l.length) = true := by rw [List.take_length]; exact decide_eq_true hmem.out
      rw [hd]
      go_wp2_with fail
      refine (awake_any _ (henv.step B4)).mono ?_
      rintro e9 w5 ⟨rfl, hb5⟩
      go_wp2_with fail
      go_ret
      exact ⟨rfl, B4.trans (hb5.mono B4.size)⟩
theorem law_composes (a b c d e f : Int) (w : World) (henv : Env w) :
    Calls Tryd.prog 5 #[.agg #[.int .i64 a, .int .i64 b], .agg #[.int .i64 c, .int .i64 d], .agg #[.int .i64 e, .int .i64 f]] w fun e w' => e = .returned (.bool true) ∧ Below w.heap.size w w' := by
  by_cases h : vld a b = true ∧ vld c d = true ∧ vld e f = true
  · exact law_composes_yes a b c d e f w henv h.1 h.2.1 h.2.2
  · exact law_composes_no a b c d e f w henv h
end Go.Proofs.YthiefmphkgopcaaDoor
