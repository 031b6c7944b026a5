/-
  short and order of the statement: what they answer. Conditions: lengths.
-/
import Derived.Test.YtclpemmpckjemaaDoorToV
import Derived.Test.YtclpemmpckjemaaDoorCoR
import Derived.Test.YtclpemmpckjemaaDoorQui
import Derived.WalkKit
import Derived.WalkSpells
import Derived.WalkLawsBesides
import Derived.Deep.QuietTactic
import Derived.BigQuiet
import Derived.Handy
import Derived.Lib.Hide
namespace Go.Proofs.YtclpemmpckjemaaDoor
open Go.RowKit

theorem sgnB_drop (x y : List UInt8) (k : Nat) (a b : UInt8) (ha : x[k]? = some a) (hb : y[k]? = some b) : sgnB (x.drop k) (y.drop k) = if a < b then -1 else if b < a then 1 else sgnB (x.drop (k + 1)) (y.drop (k + 1)) := by
  obtain ⟨h1, rfl⟩ := List.getElem?_eq_some_iff.1 ha
  obtain ⟨h2, rfl⟩ := List.getElem?_eq_some_iff.1 hb
  rw [List.drop_eq_getElem_cons h1, List.drop_eq_getElem_cons h2]
  unfold sgnB
  by_cases h : x[k] < y[k]
  · rw [bl_lt _ _ h, if_pos rfl, if_pos h]
  · rw [if_neg h]
    by_cases h3 : y[k] < x[k]
    · rw [bl_gt _ _ h3, bl_lt _ _ h3, if_pos h3]; rfl
    · rw [if_neg h3]
      have he : x[k] = y[k] := by
        rcases tri x[k] y[k] with h4 | h4 | h4
        · exact absurd h4 h
        · exact h4
        · exact absurd h4 h3
      rw [he, bl_eq, bl_eq]
theorem sgnB_end (x y : List UInt8) (k : Nat) (h : ¬ (k < x.length ∧ k < y.length)) : sgnB (x.drop k) (y.drop k) = if k < y.length then -1 else if k < x.length then 1 else 0 := by
  by_cases h1 : k < x.length
  · have h2 : ¬ k < y.length := fun h2 => h ⟨h1, h2⟩
    rw [List.drop_eq_nil_of_le (show y.length ≤ k by omega), List.drop_eq_getElem_cons h1, if_neg h2, if_pos h1]
    rfl
  · rw [List.drop_eq_nil_of_le (show x.length ≤ k by omega)]
    by_cases h2 : k < y.length
    · rw [List.drop_eq_getElem_cons h2, if_pos h2]; rfl
    · rw [List.drop_eq_nil_of_le (show y.length ≤ k by omega), if_neg h2, if_neg h1]; rfl
set_option maxRecDepth 100000 in
set_option maxHeartbeats 3200000 in
theorem short_any (u : Value) (ps : List Vl) (w : World) (L2 : Nat) (hu : RdV w L2 w.heap.size u ps) :
    Calls Tryd.prog 6 #[u] w fun e w' => e = .returned (.bool (decide (ps.length ≤ 12) && okL ps)) ∧ Below w.heap.size w w' := by
  obtain ⟨A2, c2, rfl, hl2, hc⟩ := hu
  have HC := Lib.hid hc
  clear hc
  by_cases h12 : ps.length ≤ 12
  rotate_left
  · have h12i : (ps.length : Int) > 12 := by omega
    have HF := Lib.hid (show (decide (ps.length ≤ 12) && okL ps) = false by simp [h12])
    go_enter Tryd.func6, Tryd.ntmps6
    go_wp2
    go_ret
    exact ⟨by rw [HF.out]; rfl, Below.refl _ _⟩
  have h12i : ¬ (ps.length : Int) > 12 := by omega
  rw [decide_eq_true h12, Bool.true_and]
  go_enter Tryd.func6, Tryd.ntmps6
  go_wp2
  go_loopw [3] (fun i wr => ∃ k : Nat, k ≤ ps.length ∧ i = .int .i64 k ∧ Hid (okL (ps.take k) = true) ∧ Below w.heap.size w wr) (fun i _ => ps.length - (intOf i).toNat)
  case atStart => exact ⟨0, Nat.zero_le _, rfl, Lib.hid rfl, Below.refl _ _⟩
  case round =>
    obtain ⟨k, hk, rfl, HO, hbr⟩ := hrel
    have hbz := hbr.size
    by_cases hlt : k < ps.length
    · have hki : (k : Int) < ps.length := by omega
      have hkx := List.getElem?_eq_getElem hlt
      obtain ⟨ad, rfl, _, hab, c0, c1, c2⟩ := HC.out k _ hkx
      have d0 := (hbr.cell (p := ad.add (k * 3)) (by rw [add_block]; exact hab)).trans c0
      have d1 := (hbr.cell (p := ⟨(ad.add (k * 3)).block, (ad.add (k * 3)).off + 1, none⟩) (by show (ad.add (k * 3)).block < _; rw [add_block]; exact hab)).trans c1
      have d2 := (hbr.cell (p := ⟨(ad.add (k * 3)).block, (ad.add (k * 3)).off + 2, none⟩) (by show (ad.add (k * 3)).block < _; rw [add_block]; exact hab)).trans c2
      have hno : okP ps[k] = false → okL ps = false := fun h => by
        rw [Bool.eq_false_iff]
        intro h2
        rw [okL_at h2 hkx] at h
        cases h
      have hyes : okP ps[k] = true → okL (ps.take (k + 1)) = true := fun h => by
        have h2 := HO.out
        unfold okL at h2 ⊢
        rw [List.take_succ_eq_append_getElem hlt, List.all_append, h2]
        simp [h]
      generalize ps[k] = p at *
      obtain ⟨kd, n, s⟩ := p
      dsimp only at d0 d1 d2
      have hkk := rValid7_any kd n s wr
      unfold valV at hkk
      dsimp only at hkk
      have HNO := Lib.hid hno
      have HYES := Lib.hid hyes
      clear c0 c1 c2 hkx hno hyes
      cases hv : okP (kd, n, s)
      · rw [hv] at hkk
        have HKK := Lib.hid hkk
        clear hkk
        go_wp2_with fail
        with_reducible refine HKK.out.mono ?_
        rintro e w1 ⟨rfl, hb1⟩
        go_wp2
        go_ret
        exact ⟨by rw [HNO.out hv]; rfl, hbr.trans (hb1.mono hbz)⟩
      · rw [hv] at hkk
        have HKK := Lib.hid hkk
        clear hkk
        go_wp2_with fail
        with_reducible refine HKK.out.mono ?_
        rintro e w1 ⟨rfl, hb1⟩
        go_wp2
        go_round
        case rel => exact ⟨k + 1, by omega, by go_num, Lib.hid (HYES.out hv), hbr.trans (hb1.mono hbz)⟩
        case measure => simp [intOf]; omega
    · have hki : ¬ (k : Int) < ps.length := by omega
      rw [List.take_of_length_le (by omega)] at HO
      go_wp2
      go_ret
      exact ⟨by rw [HO.out]; rfl, hbr⟩
set_option maxRecDepth 100000 in
set_option maxHeartbeats 3200000 in
theorem order_any (v u : Value) (x y : List UInt8) (w : World) (L L2 : Nat) (hv : RdB w L w.heap.size v x) (hu : RdB w L2 w.heap.size u y) :
    Calls Tryd.prog 7 #[v, u] w fun e w' => e = .returned (.int .i64 (sgnB x y)) ∧ Below w.heap.size w w' := by
  have R1 := Lib.hid hv
  have R2 := Lib.hid hu
  obtain ⟨A, c, rfl, hl1, _, hc1⟩ := hv
  obtain ⟨A2, c2, rfl, hl2, _, hc2⟩ := hu
  have HC := Lib.hid hc1
  have HC2 := Lib.hid hc2
  clear hc1 hc2 R1 R2
  go_enter Tryd.func7, Tryd.ntmps7
  go_wp2
  go_loopw [5] (fun i wr => ∃ k : Nat, k ≤ x.length ∧ k ≤ y.length ∧ i = .int .i64 k ∧ Hid (sgnB x y = sgnB (x.drop k) (y.drop k)) ∧ Below w.heap.size w wr) (fun i _ => x.length - (intOf i).toNat)
  case atStart => exact ⟨0, Nat.zero_le _, Nat.zero_le _, rfl, Lib.hid rfl, Below.refl _ _⟩
  case round =>
    obtain ⟨k, hk, hk2, rfl, HR, hbr⟩ := hrel
    have hbz := hbr.size
    by_cases hlt : k < x.length ∧ k < y.length
    · obtain ⟨hlt, hlt2⟩ := hlt
      have hki : (k : Int) < x.length := by omega
      have hki2 : (k : Int) < y.length := by omega
      obtain ⟨ad, rfl, _, hab, c0⟩ := HC.out k _ (List.getElem?_eq_getElem hlt)
      obtain ⟨ad2, rfl, _, hab2, b0⟩ := HC2.out k _ (List.getElem?_eq_getElem hlt2)
      have d0 := (hbr.cell (p := ad.add k) (by rw [add_block]; exact hab)).trans c0
      have f0 := (hbr.cell (p := ad2.add k) (by rw [add_block]; exact hab2)).trans b0
      have hcd := sgnB_drop x y k _ _ (List.getElem?_eq_getElem hlt) (List.getElem?_eq_getElem hlt2)
      rw [← HR.out] at hcd
      generalize x[k] = p at *
      generalize y[k] = q at *
      have g0 : ∀ r : After wr, r.w.cell? (ad.add k) = some (.int .u8 (p.toNat : Nat)) := after_cell (by rw [add_block]; omega) d0
      have j0 : ∀ r : After wr, r.w.cell? (ad2.add k) = some (.int .u8 (q.toNat : Nat)) := after_cell (by rw [add_block]; omega) f0
      have HCD := Lib.hid hcd
      clear c0 b0 hcd
      by_cases h1 : (p.toNat : Int) < q.toNat
      · have HF := Lib.hid (HCD.out.trans (if_pos (show p < q from u8_lt.2 (by omega))))
        clear HCD
        go_wp2_with fail
        (refine wp_region_after (by kernel_rfl) (by kernel_rfl) ?_; (repeat (go_big_quiet_step (fail))); refine wpQuiet_nil ?_; intro wq hw0; obtain ⟨⟨wq0, hbq⟩, hw1⟩ := hw0; subst hw1; (try dsimp only))
        have HB := Lib.hid (hbr.trans (hbq.mono hbz))
        go_wp2
        go_ret
        exact ⟨by rw [HF.out]; rfl, HB.out⟩
      · have HD := Lib.hid (HCD.out.trans (if_neg (show ¬ p < q from fun h => h1 (by have := u8_lt.1 h; omega))))
        clear HCD
        go_wp2_with fail
        (refine wp_region_after (by kernel_rfl) (by kernel_rfl) ?_; (repeat (go_big_quiet_step (fail))); refine wpQuiet_nil ?_; intro wq hw0; obtain ⟨⟨wq0, hbq⟩, hw1⟩ := hw0; subst hw1; (try dsimp only))
        have hqz := hbq.size
        have d1 := (hbq.cell (p := ad.add k) (by rw [add_block]; omega)).trans d0
        have f1 := (hbq.cell (p := ad2.add k) (by rw [add_block]; omega)).trans f0
        clear g0 j0
        have g1 : ∀ r : After wq, r.w.cell? (ad.add k) = some (.int .u8 (p.toNat : Nat)) := after_cell (by rw [add_block]; omega) d1
        have j1 : ∀ r : After wq, r.w.cell? (ad2.add k) = some (.int .u8 (q.toNat : Nat)) := after_cell (by rw [add_block]; omega) f1
        by_cases h2 : (p.toNat : Int) > q.toNat
        · have HF := Lib.hid (HD.out.trans (if_pos (show q < p from u8_lt.2 (by omega))))
          clear HD
          go_wp2_with fail
          (refine wp_region_after (by kernel_rfl) (by kernel_rfl) ?_; (repeat (go_big_quiet_step (fail))); refine wpQuiet_nil ?_; intro wq2 hw0; obtain ⟨⟨wq0, hbq2⟩, hw1⟩ := hw0; subst hw1; (try dsimp only))
          have HB := Lib.hid (hbr.trans ((hbq.trans (hbq2.mono hqz)).mono hbz))
          go_wp2
          go_ret
          exact ⟨by rw [HF.out]; rfl, HB.out⟩
        · have HF := Lib.hid (HD.out.trans (if_neg (show ¬ q < p from fun h => h2 (by have := u8_lt.1 h; omega))))
          clear HD
          go_wp2_with fail
          (refine wp_region_after (by kernel_rfl) (by kernel_rfl) ?_; (repeat (go_big_quiet_step (fail))); refine wpQuiet_nil ?_; intro wq2 hw0; obtain ⟨⟨wq0, hbq2⟩, hw1⟩ := hw0; subst hw1; (try dsimp only))
          have HB := Lib.hid (hbr.trans ((hbq.trans (hbq2.mono hqz)).mono hbz))
          go_wp2
          go_round
          case rel => exact ⟨k + 1, by omega, by omega, by go_num, HF, HB.out⟩
          case measure => simp [intOf]; omega
    · skip
      have hce := sgnB_end x y k hlt
      rw [← HR.out] at hce
      by_cases h1 : k < y.length
      · have h2 : ¬ k < x.length := fun h2 => hlt ⟨h2, h1⟩
        have HF := Lib.hid (hce.trans (if_pos h1))
        have t1 : ¬ (k : Int) < x.length := by omega
        have t2 : (x.length : Int) < y.length := by omega
        clear hce hlt
        go_wp2
        go_ret
        exact ⟨by rw [HF.out]; rfl, hbr⟩
      · by_cases h2 : k < x.length
        · have HF := Lib.hid ((hce.trans (if_neg h1)).trans (if_pos h2))
          have t0 : (k : Int) < x.length := by omega
          have t1 : ¬ (k : Int) < y.length := by omega
          have t2 : ¬ (x.length : Int) < y.length := by omega
          have t3 : (x.length : Int) > y.length := by omega
          clear hce hlt
          go_wp2
          go_ret
          exact ⟨by rw [HF.out]; rfl, hbr⟩
        · have HF := Lib.hid ((hce.trans (if_neg h1)).trans (if_neg h2))
          have t1 : ¬ (k : Int) < x.length := by omega
          have t2 : ¬ (x.length : Int) < y.length := by omega
          have t3 : ¬ (x.length : Int) > y.length := by omega
          clear hce hlt
          go_wp2
          go_ret
          exact ⟨by rw [HF.out]; rfl, hbr⟩
end Go.Proofs.YtclpemmpckjemaaDoor
