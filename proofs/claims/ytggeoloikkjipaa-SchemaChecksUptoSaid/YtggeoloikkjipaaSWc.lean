import Derived.Test.YtggeoloikkjipaaSWb
import Derived.WalkKit
import Derived.WalkSpells
import Derived.WalkLawsBesides
import Derived.Deep.QuietTactic
import Derived.BigQuiet
import Derived.Handy
import Derived.Lib.Hide
/-
  The reference's key: what it answers. Conditions: none.
-/
namespace Go.Proofs.Ytggeoloikkjipaa
set_option linter.unusedVariables false
set_option linter.unusedSimpArgs false
set_option maxRecDepth 100000
open Go.RowKit

set_option maxRecDepth 100000 in
set_option maxHeartbeats 12800000 in
theorem rTKey_any (nm vc vk vf vx : Value) (cs : List Cl) (ks : List Int) (w : World) (L L2 : Nat) (hc : RdK w L w.heap.size vc cs) (hk : RdI w L2 w.heap.size vk ks) :
    Calls Try.prog 74 #[.agg #[nm, vc, vk, vf, vx]] w fun e w' => e = .returned (.int .i64 (keyE cs ks)) ∧ Below w.heap.size w w' := by
  obtain ⟨A, c, rfl, hl1, hc1⟩ := hc
  obtain ⟨A2, c2, rfl, hl2, hc2⟩ := hk
  have HC := Lib.hid hc1
  have HC2 := Lib.hid hc2
  have HB1 := Lib.hid (bel_mark w (.cells #[nm, .slice A cs.length c, .slice A2 ks.length c2, vf, vx] 42))
  have HO1 := Lib.hid (Own.new w 42 #[nm, .slice A cs.length c, .slice A2 ks.length c2, vf, vx])
  have HX := Lib.hid (fun (i : Int) (W : World) => rExists_any nm (.slice A2 ks.length c2) vf vx A cs.length c i W)
  have d2 := HO1.out.cell 2
  clear hc1 hc2
  by_cases hz : ks.length = 0
  · have hzi : ((ks.length : Int) == 0) = true := by rw [beq_iff_eq]; omega
    have HF := Lib.hid (show keyE cs ks = 25 from if_pos hz)
    clear hz
    go_enter Try.func74, Try.ntmps74
    go_wp2
    go_ret
    exact ⟨(by rw [HF.out]; try rfl), HB1.out⟩
  have hzi : ((ks.length : Int) == 0) = false := by rw [beq_eq_false_iff_ne]; omega
  have HE := Lib.hid (show keyE cs ks = keyT cs (-1) (ks.drop 0) from if_neg hz)
  clear hz
  go_enter Try.func74, Try.ntmps74
  go_wp2_with fail
  go_loopw [3] (fun i wr => ∃ (k : Nat) (y : Int), k ≤ ks.length ∧ i = .int .i64 k ∧ Hid ((k = 0 → y = -1) ∧ (∀ j, k = j + 1 → ks[j]? = some y ∧ 0 ≤ y)) ∧ Hid (keyE cs ks = keyT cs y (ks.drop k)) ∧ Hid (Own wr w.heap.size 42 #[nm, .slice A cs.length c, .slice A2 ks.length c2, vf, vx]) ∧ Below w.heap.size w wr) (fun i _ => ks.length - (intOf i).toNat)
  case atStart => exact ⟨0, -1, Nat.zero_le _, rfl, Lib.hid ⟨fun _ => rfl, fun j h => by omega⟩, HE, HO1, HB1.out⟩
  case round =>
    obtain ⟨k, y, hk, rfl, HY, HR, HO, hbr⟩ := hrel
    have hbz := hbr.size
    clear d2 HE HO1 HB1
    obtain ⟨d0, d1, d2, d3, d4⟩ := HO.out.five
    by_cases hlt : k < ks.length
    · have hki : (k : Int) < ks.length := by omega
      obtain ⟨ad2, rfl, _, hab2, b0⟩ := HC2.out k _ (List.getElem?_eq_getElem hlt)
      have hcd := keyT_drop cs y (List.getElem?_eq_getElem hlt)
      rw [← HR.out] at hcd
      have hki2 := List.getElem?_eq_getElem hlt
      generalize ks[k] = z at *
      have HKI := Lib.hid hki2
      have f0 := (hbr.cell (p := ad2.add k) (by rw [add_block]; exact hab2)).trans b0
      have F0 := Lib.hid (show ∀ p : After wr, p.w.cell? (ad2.add k) = some (.int .i64 z) from after_cell (by rw [add_block]; omega) f0)
      have T0 := Lib.hid (show ∀ p : After wr, p.w.cell? ⟨w.heap.size, 0, none⟩ = some nm from after_cell HO.out.lt d0)
      have T1 := Lib.hid (show ∀ p : After wr, p.w.cell? ⟨w.heap.size, 1, none⟩ = some (.slice A cs.length c) from after_cell HO.out.lt d1)
      have T2 := Lib.hid (show ∀ p : After wr, p.w.cell? ⟨w.heap.size, 2, none⟩ = some (.slice (some ad2) ks.length c2) from after_cell HO.out.lt d2)
      have T3 := Lib.hid (show ∀ p : After wr, p.w.cell? ⟨w.heap.size, 3, none⟩ = some vf from after_cell HO.out.lt d3)
      have T4 := Lib.hid (show ∀ p : After wr, p.w.cell? ⟨w.heap.size, 4, none⟩ = some vx from after_cell HO.out.lt d4)
      have HCD := Lib.hid hcd
      clear b0 hcd hki2 f0 d0 d1 d3 d4
      by_cases hex : exiB cs.length z = true
      rotate_left
      · have hex : exiB cs.length z = false := by simpa using hex
        have hzz : z ≤ y ∨ (cs.length : Int) ≤ z := by
          unfold exiB at hex
          by_cases h0 : 0 ≤ z
          · rw [decide_eq_true h0, Bool.true_and] at hex
            exact .inr (by have := of_decide_eq_false hex; omega)
          · refine .inl ?_
            rcases Nat.eq_zero_or_pos k with hk0 | hk0
            · have := HY.out.1 hk0; omega
            · obtain ⟨j, rfl⟩ : ∃ j, k = j + 1 := ⟨k - 1, by omega⟩
              have := (HY.out.2 j rfl).2; omega
        have HF := Lib.hid (HCD.out.trans (if_pos hzz))
        have HXF := Lib.hid (show ∀ W, Calls Try.prog 115 #[.agg #[nm, .slice A cs.length c, .slice (some ad2) ks.length c2, vf, vx], .int .i64 z] W fun e w' => e = .returned (.bool false) ∧ Below W.heap.size W w' from fun W => by have h := HX.out z W; rwa [hex] at h)
        clear hex hzz HCD HX
        go_wp2_with fail
        have t0 := T0.out
        have t1 := T1.out
        have t2 := T2.out
        have t3 := T3.out
        have t4 := T4.out
        have q0 := F0.out
        clear d2
        (refine wp_region_after (by kernel_rfl) (by kernel_rfl) ?_; (repeat (go_big_quiet_step ((go_at_call 115; exact calls_after (HXF.out _))))); refine wpQuiet_nil ?_; intro wq hw0; obtain ⟨⟨wq0, hbq⟩, hw1⟩ := hw0; subst hw1; (try dsimp only))
        clear t0 t1 t2 t3 t4 q0
        go_wp2
        go_ret
        exact ⟨(by rw [HF.out]; try rfl), hbr.trans (hbq.mono hbz)⟩
      have HXT := Lib.hid (show ∀ W, Calls Try.prog 115 #[.agg #[nm, .slice A cs.length c, .slice (some ad2) ks.length c2, vf, vx], .int .i64 z] W fun e w' => e = .returned (.bool true) ∧ Below W.heap.size W w' from fun W => by have h := HX.out z W; rwa [hex] at h)
      obtain ⟨hz0, hz1⟩ : 0 ≤ z ∧ z < cs.length := by unfold exiB at hex; simpa using hex
      clear hex HX
      obtain ⟨j, rfl⟩ : ∃ j : Nat, z = j := ⟨z.toNat, by omega⟩
      have hjl : j < cs.length := by omega
      obtain ⟨ad, rfl, _, hab, a0, a1, a2⟩ := HC.out j _ (List.getElem?_eq_getElem hjl)
      have e2 := (hbr.cell (p := ⟨(ad.add (j * 3)).block, (ad.add (j * 3)).off + 2, none⟩) (by show (ad.add (j * 3)).block < _; rw [add_block]; exact hab)).trans a2
      have E2 := Lib.hid (show ∀ p : After wr, p.w.cell? ⟨(ad.add (j * 3)).block, (ad.add (j * 3)).off + 2, none⟩ = some (.bool cs[j].2.2) from after_cell (by show (ad.add (j * 3)).block < _; rw [add_block]; omega) e2)
      rw [Int.toNat_natCast, List.getElem?_eq_getElem hjl, Option.map_some, Option.getD_some] at HCD
      generalize cs[j] = q at *
      obtain ⟨qn, qk, qb⟩ := q
      dsimp only at E2 HCD
      clear a0 a1 a2 e2
      rcases Nat.eq_zero_or_pos k with hk0 | hk0
      · subst hk0
        have hki2 : (0 : Int) < ks.length := by omega
        have e0 : ad2.add 0 = ad2 := rfl
        have F0 := Lib.hid (show ∀ p : After wr, p.w.cell? ad2 = some (.int .i64 (j : Int)) from fun p => by have h := F0.out p; rwa [e0] at h)
        have hzy : ¬ ((j : Int) ≤ y ∨ (cs.length : Int) ≤ (j : Int)) := fun h => h.elim (fun h => by have := HY.out.1 rfl; omega) (fun h => by omega)
        have HCD := Lib.hid (HCD.out.trans (if_neg hzy))
        clear hzy e0
        go_wp2_with fail
        have t0 := T0.out
        have t1 := T1.out
        have t2 := T2.out
        have t3 := T3.out
        have t4 := T4.out
        have q0 := F0.out
        clear d2
        (refine wp_region_after (by kernel_rfl) (by kernel_rfl) ?_; (repeat (go_big_quiet_step ((go_at_call 115; exact calls_after (HXT.out _))))); refine wpQuiet_nil ?_; intro wq hw0; obtain ⟨⟨wq0, hbq⟩, hw1⟩ := hw0; subst hw1; (try dsimp only))
        clear t0 t1 t2 t3 t4 q0
        have hup : ∀ {a : Addr} {v : Value}, (∀ p : After wr, p.w.cell? a = some v) → ∀ p : After wq, p.w.cell? a = some v := fun h p => h ⟨p.w, hbq.trans (p.h.mono hbq.size)⟩
        have HYN := Lib.hid (show (0 + 1 = 0 → (j : Int) = -1) ∧ (∀ i2, 0 + 1 = i2 + 1 → ks[i2]? = some (j : Int) ∧ 0 ≤ (j : Int)) from ⟨fun h => by omega, fun i2 hi => by
          have e : 0 = i2 := by omega
          rw [← e]
          exact ⟨HKI.out, by omega⟩⟩)
        have HBQ := Lib.hid (hbr.trans (hbq.mono hbz))
        have HOQ := Lib.hid (HO.out.below hbq HO.out.lt)
        have s0 := hup T1.out
        have s1 := hup T2.out
        have s2 := hup F0.out
        have s3 := hup E2.out
        clear hup hbq hbz
        go_wp2_with fail
        (refine wp_region_after (by kernel_rfl) (by kernel_rfl) ?_; (repeat (go_big_quiet_step (fail))); refine wpQuiet_nil ?_; intro wq2 hw0; obtain ⟨⟨wq0, hbq2⟩, hw1⟩ := hw0; subst hw1; (try dsimp only))
        have HB5 := Lib.hid (HBQ.out.trans (hbq2.mono HBQ.out.size))
        have HO5 := Lib.hid (HOQ.out.below hbq2 HOQ.out.lt)
        clear s0 s1 s2 s3 hbq2
        cases qb
        · have HF := Lib.hid (HCD.out.trans (if_neg (by decide)))
          clear HCD
          go_wp2
          go_roundw
          case rel => exact ⟨0 + 1, (j : Int), by omega, by go_num, HYN, HF, HO5, HB5.out⟩
          case measure => simp [intOf]; omega
        · have HF := Lib.hid (HCD.out.trans (if_pos rfl))
          clear HCD
          go_wp2
          go_ret
          exact ⟨(by rw [HF.out]; try rfl), HB5.out⟩
      · obtain ⟨i, rfl⟩ : ∃ i, k = i + 1 := ⟨k - 1, by omega⟩
        have hki2 : (i : Int) + 1 < ks.length := by omega
        have e0 : ad2.add (i + 1) = ⟨ad2.block, ad2.off + (i + 1), none⟩ := by unfold Addr.add; rw [if_neg (by omega)]
        have F0 := Lib.hid (show ∀ p : After wr, p.w.cell? ⟨ad2.block, ad2.off + (i + 1), none⟩ = some (.int .i64 (j : Int)) from fun p => by have h := F0.out p; rwa [e0] at h)
        obtain ⟨hyi, hy0⟩ := HY.out.2 i rfl
        obtain ⟨ad3, e3, _, hab3, b3⟩ := HC2.out i _ hyi
        injection e3 with e3
        subst e3
        have F1 := Lib.hid (show ∀ p : After wr, p.w.cell? (ad2.add i) = some (.int .i64 y) from after_cell (by rw [add_block]; omega) ((hbr.cell (p := ad2.add i) (by rw [add_block]; exact hab3)).trans b3))
        clear b3 hk0 e0
        by_cases hle : (j : Int) ≤ y
        · have HF := Lib.hid (HCD.out.trans (if_pos (.inl hle)))
          clear HCD hyi
          go_wp2_with fail
          have t0 := T0.out
          have t1 := T1.out
          have t2 := T2.out
          have t3 := T3.out
          have t4 := T4.out
          have q0 := F0.out
          have q1 := F1.out
          clear d2
          (refine wp_region_after (by kernel_rfl) (by kernel_rfl) ?_; (repeat (go_big_quiet_step ((go_at_call 115; exact calls_after (HXT.out _))))); refine wpQuiet_nil ?_; intro wq hw0; obtain ⟨⟨wq0, hbq⟩, hw1⟩ := hw0; subst hw1; (try dsimp only))
          clear t0 t1 t2 t3 t4 q0 q1
          go_wp2
          go_ret
          exact ⟨(by rw [HF.out]; try rfl), hbr.trans (hbq.mono hbz)⟩
        · have HCD := Lib.hid (HCD.out.trans (if_neg (fun h => h.elim hle (fun h => by omega))))
          clear hyi
          go_wp2_with fail
          have t0 := T0.out
          have t1 := T1.out
          have t2 := T2.out
          have t3 := T3.out
          have t4 := T4.out
          have q0 := F0.out
          have q1 := F1.out
          clear d2
          (refine wp_region_after (by kernel_rfl) (by kernel_rfl) ?_; (repeat (go_big_quiet_step ((go_at_call 115; exact calls_after (HXT.out _))))); refine wpQuiet_nil ?_; intro wq hw0; obtain ⟨⟨wq0, hbq⟩, hw1⟩ := hw0; subst hw1; (try dsimp only))
          clear t0 t1 t2 t3 t4 q0 q1
          have hup : ∀ {a : Addr} {v : Value}, (∀ p : After wr, p.w.cell? a = some v) → ∀ p : After wq, p.w.cell? a = some v := fun h p => h ⟨p.w, hbq.trans (p.h.mono hbq.size)⟩
          have HYN := Lib.hid (show ((i + 1) + 1 = 0 → (j : Int) = -1) ∧ (∀ i2, (i + 1) + 1 = i2 + 1 → ks[i2]? = some (j : Int) ∧ 0 ≤ (j : Int)) from ⟨fun h => by omega, fun i2 hi => by
          have e : (i + 1) = i2 := by omega
          rw [← e]
          exact ⟨HKI.out, by omega⟩⟩)
          have HBQ := Lib.hid (hbr.trans (hbq.mono hbz))
          have HOQ := Lib.hid (HO.out.below hbq HO.out.lt)
          have s0 := hup T1.out
          have s1 := hup T2.out
          have s2 := hup F0.out
          have s3 := hup E2.out
          clear hup hbq hbz
          go_wp2_with fail
          (refine wp_region_after (by kernel_rfl) (by kernel_rfl) ?_; (repeat (go_big_quiet_step (fail))); refine wpQuiet_nil ?_; intro wq2 hw0; obtain ⟨⟨wq0, hbq2⟩, hw1⟩ := hw0; subst hw1; (try dsimp only))
          have HB5 := Lib.hid (HBQ.out.trans (hbq2.mono HBQ.out.size))
          have HO5 := Lib.hid (HOQ.out.below hbq2 HOQ.out.lt)
          clear s0 s1 s2 s3 hbq2
          cases qb
          · have HF := Lib.hid (HCD.out.trans (if_neg (by decide)))
            clear HCD
            go_wp2
            go_roundw
            case rel => exact ⟨(i + 1) + 1, (j : Int), by omega, by go_num, HYN, HF, HO5, HB5.out⟩
            case measure => simp [intOf]; omega
          · have HF := Lib.hid (HCD.out.trans (if_pos rfl))
            clear HCD
            go_wp2
            go_ret
            exact ⟨(by rw [HF.out]; try rfl), HB5.out⟩
    · have hki : ¬ (k : Int) < ks.length := by omega
      have HF := Lib.hid (show keyE cs ks = 0 by rw [HR.out, List.drop_eq_nil_of_le (show ks.length ≤ k by omega)]; rfl)
      clear d0 d1 d3 d4
      go_wp2
      go_ret
      exact ⟨(by rw [HF.out]; try rfl), hbr⟩
end Go.Proofs.Ytggeoloikkjipaa
