/-
  The walk of the statement ClockOrder. Conditions: none.
-/
import Derived.Test.YtonhlejeedhpiaaCkW
import Derived.WalkKit
import Derived.WalkSpells
import Derived.WalkLawsBesides
import Derived.Deep.QuietTactic
import Derived.BigQuiet
import Derived.Handy
import Derived.Lib.Hide
namespace Go.Proofs.Ytonhlejeedhpiaa
open Go.RowKit
theorem rpl_get : ∀ (l : List Int) (a : Int) (k : Nat) (r : Int), l[k]? = some r → (rpl a l)[k]? = some (nxT (lstT a (l.take k)) r, r)
  | [], a, k, r, h => by simp at h
  | x :: l, a, 0, r, h => by simp at h; subst h; simp [rpl, lstT]
  | x :: l, a, k + 1, r, h => by
    rw [List.getElem?_cons_succ] at h
    rw [rpl, List.getElem?_cons_succ, rpl_get l (nxT a x) k r h]
    simp [lstT]
set_option maxRecDepth 100000 in
set_option maxHeartbeats 3200000 in
theorem law_order (v : Value) (l : List Int) (w : World) (L : Nat) (hv : RdI w L w.heap.size v l) :
    Calls Try.prog 8 #[v] w fun e w' => e = .returned (.bool true) ∧ Below w.heap.size w w' := by
  have H0 := Lib.hid hv
  have hx1 := pReplay_any _ _ _ _ hv
  obtain ⟨A, c, rfl, hlen, _⟩ := hv
  unfold RetRep at hx1
  by_cases hE : rpE 0 l = 0
  · rw [hE, repL_ok hE] at hx1
    have hpl := rpl_len 0 l
    go_enter Try.func8, Try.ntmps8
    go_wp2_with fail
    refine hx1.mono ?_
    rintro e w1 ⟨v1, rfl, hr1, hb1⟩
    have Z1 := hb1.size
    have R1 := Lib.hid hr1
    have H1 := Lib.hid (H0.out.step hb1 (Nat.le_refl _))
    obtain ⟨A1, c1, rfl, _, _⟩ := hr1
    rw [hpl]
    rw [show Value.slice A1 (rpl 0 l).length c1 = Value.slice A1 l.length c1 by rw [hpl]] at R1
    have hln : ((l.length : Int) != (l.length : Int)) = false := by simp
    clear hx1 H0
    go_wp2
    go_loopw [5, 6, 7, 29] (fun u a b i wr => ∃ (k : Nat) (ub : Bool) (x y : Int), Hid (k ≤ l.length ∧ x = lstT 0 (l.take k) ∧ (ub = true → x = y)) ∧ i = .int .i64 k ∧ u = .bool ub ∧ a = .int .i64 x ∧ b = .int .i64 y ∧ Below w1.heap.size w1 wr) (fun _ _ _ i _ => l.length - (intOf i).toNat)
    case atStart => exact ⟨0, true, 0, 0, Lib.hid ⟨by omega, rfl, fun _ => rfl⟩, rfl, rfl, rfl, rfl, Below.refl _ _⟩
    case round =>
      obtain ⟨k, ub, z, y, hK, rfl, rfl, rfl, rfl, hbr⟩ := hrel
      have hbz := hbr.size
      obtain ⟨hk, hz, hu⟩ := hK.out
      by_cases hlt : k < l.length
      · have hx := List.getElem?_eq_getElem hlt
        generalize l[k] = r at hx
        obtain ⟨ad, rfl, _, hab, c0⟩ := (H1.out.below hbr).at hx
        have hgx := rpl_get l 0 k r hx
        rw [← hz] at hgx
        obtain ⟨ad2, rfl, _, hab2, c1, c2⟩ := (R1.out.below hbr).at hgx
        have HX := Lib.hid (show nxT z r = lstT 0 (l.take (k + 1)) ∧ True from ⟨by rw [lstT_step hx, hz], trivial⟩)
        have hxp : z < nxT z r ∧ r ≤ nxT z r ∧ (z < r → nxT z r = r) := by unfold nxT; omega
        dsimp only at c1 c2
        generalize nxT z r = x at *
        have i2 : (0 : Int) ≤ (k : Int) := by omega
        have i3 : (k : Int) < (l.length : Int) := by omega
        have q1 : decide (x ≤ z) = false := decide_eq_false (by omega)
        have q2 : decide (x < r) = false := decide_eq_false (by omega)
        have q3 : (r != r) = false := by simp
        have f0 : ∀ p : After wr, p.w.cell? (ad2.add (k * 2)) = some (.int .i64 x) := after_cell (by rw [add_block]; omega) c1
        have f1 : ∀ p : After wr, p.w.cell? ⟨(ad2.add (k * 2)).block, (ad2.add (k * 2)).off + 1, none⟩ = some (.int .i64 r) := after_cell (by show (ad2.add (k * 2)).block < _; rw [add_block]; omega) c2
        have f2 : ∀ p : After wr, p.w.cell? (ad.add k) = some (.int .i64 r) := after_cell (by rw [add_block]; omega) c0
        have g1 : ∀ p : After wr, p.w.cell? ⟨(ad2.add (k * 2)).block, (ad2.add (k * 2)).off + 1, none⟩ = some (.int .i64 r) := f1
        clear hx hgx c0 c1 c2 hK
        cases ub with
        | true =>
          obtain rfl := hu rfl
          by_cases hrz : r > z
          · obtain rfl := hxp.2.2 (by omega)
            have q4 : decide (x > z) = true := decide_eq_true hrz
            clear hu hz
            go_wp2
            (refine wp_region_after (by kernel_rfl) (by kernel_rfl) ?_; (repeat (go_big_quiet_step (fail))); refine wpQuiet_nil ?_; intro wq hw0; obtain ⟨⟨wq0, hbq⟩, hw1⟩ := hw0; subst hw1; (try dsimp only))
            have c8 : wq.cell? (ad.add k) = some (.int .i64 x) := f2 ⟨wq, hbq⟩
            go_wp2
            have zq := hbq.size
            have f6 : ∀ p : After wq, p.w.cell? (ad2.add (k * 2)) = some (.int .i64 x) := after_cell (by rw [add_block]; omega) (f0 ⟨wq, hbq⟩)
            have f8 : ∀ p : After wq, p.w.cell? (ad.add k) = some (.int .i64 x) := after_cell (by rw [add_block]; omega) (f2 ⟨wq, hbq⟩)
            (refine wp_region_after (by kernel_rfl) (by kernel_rfl) ?_; (repeat (go_big_quiet_step (fail))); refine wpQuiet_nil ?_; intro wp hw0; obtain ⟨⟨wq0, hbp⟩, hw1⟩ := hw0; subst hw1; (try dsimp only))
            have zp := hbp.size
            have f9 : ∀ p : After wp, p.w.cell? (ad2.add (k * 2)) = some (.int .i64 x) := after_cell (by rw [add_block]; omega) (f6 ⟨wp, hbp⟩)
            have f11 : ∀ p : After wp, p.w.cell? (ad.add k) = some (.int .i64 x) := after_cell (by rw [add_block]; omega) (f8 ⟨wp, hbp⟩)
            go_wp2
            (refine wp_region_after (by kernel_rfl) (by kernel_rfl) ?_; (repeat (go_big_quiet_step (fail))); refine wpQuiet_nil ?_; intro wo hw0; obtain ⟨⟨wq0, hbo⟩, hw1⟩ := hw0; subst hw1; (try dsimp only))
            go_wp2
            go_roundw
            case rel => exact ⟨k + 1, true, x, x, Lib.hid ⟨by omega, HX.out.1, fun _ => rfl⟩, by go_num, rfl, rfl, rfl, hbr.trans ((hbq.mono hbz).trans ((hbp.mono (by omega)).trans (hbo.mono (by omega))))⟩
            case measure => simp [intOf]; omega
          · have q4 : decide (r > z) = false := decide_eq_false hrz
            clear hu hz
            go_wp2
            (refine wp_region_after (by kernel_rfl) (by kernel_rfl) ?_; (repeat (go_big_quiet_step (fail))); refine wpQuiet_nil ?_; intro wq hw0; obtain ⟨⟨wq0, hbq⟩, hw1⟩ := hw0; subst hw1; (try dsimp only))
            have c8 : wq.cell? (ad.add k) = some (.int .i64 r) := f2 ⟨wq, hbq⟩
            go_wp2
            have zq := hbq.size
            have f6 : ∀ p : After wq, p.w.cell? (ad2.add (k * 2)) = some (.int .i64 x) := after_cell (by rw [add_block]; omega) (f0 ⟨wq, hbq⟩)
            have f8 : ∀ p : After wq, p.w.cell? (ad.add k) = some (.int .i64 r) := after_cell (by rw [add_block]; omega) (f2 ⟨wq, hbq⟩)
            (refine wp_region_after (by kernel_rfl) (by kernel_rfl) ?_; (repeat (go_big_quiet_step (fail))); refine wpQuiet_nil ?_; intro wp hw0; obtain ⟨⟨wq0, hbp⟩, hw1⟩ := hw0; subst hw1; (try dsimp only))
            have zp := hbp.size
            have f9 : ∀ p : After wp, p.w.cell? (ad2.add (k * 2)) = some (.int .i64 x) := after_cell (by rw [add_block]; omega) (f6 ⟨wp, hbp⟩)
            have f11 : ∀ p : After wp, p.w.cell? (ad.add k) = some (.int .i64 r) := after_cell (by rw [add_block]; omega) (f8 ⟨wp, hbp⟩)
            go_wp2
            (refine wp_region_after (by kernel_rfl) (by kernel_rfl) ?_; (repeat (go_big_quiet_step (fail))); refine wpQuiet_nil ?_; intro wo hw0; obtain ⟨⟨wq0, hbo⟩, hw1⟩ := hw0; subst hw1; (try dsimp only))
            go_wp2
            go_roundw
            case rel => exact ⟨k + 1, false, x, r, Lib.hid ⟨by omega, HX.out.1, fun h => by cases h⟩, by go_num, rfl, rfl, rfl, hbr.trans ((hbq.mono hbz).trans ((hbp.mono (by omega)).trans (hbo.mono (by omega))))⟩
            case measure => simp [intOf]; omega
        | false =>
          clear hu hz
          go_wp2
          (refine wp_region_after (by kernel_rfl) (by kernel_rfl) ?_; (repeat (go_big_quiet_step (fail))); refine wpQuiet_nil ?_; intro wq hw0; obtain ⟨⟨wq0, hbq⟩, hw1⟩ := hw0; subst hw1; (try dsimp only))
          have c8 : wq.cell? (ad.add k) = some (.int .i64 r) := f2 ⟨wq, hbq⟩
          go_wp2
          have zq := hbq.size
          have f6 : ∀ p : After wq, p.w.cell? (ad2.add (k * 2)) = some (.int .i64 x) := after_cell (by rw [add_block]; omega) (f0 ⟨wq, hbq⟩)
          have f8 : ∀ p : After wq, p.w.cell? (ad.add k) = some (.int .i64 r) := after_cell (by rw [add_block]; omega) (f2 ⟨wq, hbq⟩)
          (refine wp_region_after (by kernel_rfl) (by kernel_rfl) ?_; (repeat (go_big_quiet_step (fail))); refine wpQuiet_nil ?_; intro wp hw0; obtain ⟨⟨wq0, hbp⟩, hw1⟩ := hw0; subst hw1; (try dsimp only))
          have zp := hbp.size
          have f9 : ∀ p : After wp, p.w.cell? (ad2.add (k * 2)) = some (.int .i64 x) := after_cell (by rw [add_block]; omega) (f6 ⟨wp, hbp⟩)
          have f11 : ∀ p : After wp, p.w.cell? (ad.add k) = some (.int .i64 r) := after_cell (by rw [add_block]; omega) (f8 ⟨wp, hbp⟩)
          go_wp2
          (refine wp_region_after (by kernel_rfl) (by kernel_rfl) ?_; (repeat (go_big_quiet_step (fail))); refine wpQuiet_nil ?_; intro wo hw0; obtain ⟨⟨wq0, hbo⟩, hw1⟩ := hw0; subst hw1; (try dsimp only))
          go_wp2
          go_roundw
          case rel => exact ⟨k + 1, false, x, r, Lib.hid ⟨by omega, HX.out.1, fun h => by cases h⟩, by go_num, rfl, rfl, rfl, hbr.trans ((hbq.mono hbz).trans ((hbp.mono (by omega)).trans (hbo.mono (by omega))))⟩
          case measure => simp [intOf]; omega
      · have hd : ¬ (k : Int) < l.length := by omega
        clear hK hz hu
        go_wp2_with fail
        refine (works_any _).mono ?_
        rintro e w2 ⟨rfl, hb2⟩
        go_wp2
        go_ret
        exact ⟨rfl, hb1.trans ((hbr.trans (hb2.mono hbz)).mono Z1)⟩
  · rw [repL_no hE] at hx1
    generalize rpE 0 l = R at *
    have hne : (R != 0) = true := by simpa using hE
    go_enter Try.func8, Try.ntmps8
    go_wp2_with fail
    refine hx1.mono ?_
    rintro e w1 ⟨v1, rfl, hr1, hb1⟩
    have Z1 := hb1.size
    obtain ⟨A1, c1, rfl, _, _⟩ := hr1
    go_wp2_with fail
    refine (works_any _).mono ?_
    rintro e w2 ⟨rfl, hb2⟩
    go_wp2
    go_ret
    exact ⟨rfl, hb1.trans (hb2.mono Z1)⟩
end Go.Proofs.Ytonhlejeedhpiaa
