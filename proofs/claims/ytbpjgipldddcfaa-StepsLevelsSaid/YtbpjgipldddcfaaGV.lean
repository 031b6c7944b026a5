import Derived.Test.YtbpjgipldddcfaaGR
import Derived.WalkKit
import Derived.WalkSpells
import Derived.WalkLawsBesides
import Derived.Deep.QuietTactic
import Derived.BigQuiet
import Derived.Handy
import Derived.Lib.Hide
/-
  Contracts of Valid on lists of steps, of the program and of the reference. Conditions: none.
-/
namespace Go.Proofs.Ytbpjgipldddcfaa
set_option maxRecDepth 100000
set_option linter.unusedVariables false
set_option linter.unusedSimpArgs false
open Go.RowKit

set_option maxRecDepth 100000 in
set_option maxHeartbeats 3200000 in
theorem rStValid_any (v : Value) (l : List (Int × Int)) (w : World) (L : Nat) (hv : RdP w L w.heap.size v l) :
    Calls Try.prog 16 #[v] w fun e w' => e = .returned (.bool (stV l)) ∧ Below w.heap.size w w' := by
  have hv0 := hv
  obtain ⟨A, c, rfl, hlen, _⟩ := hv
  by_cases hne : l = []
  · subst hne
    go_enter Try.func16, Try.ntmps16
    go_wp2
    go_ret
    exact ⟨rfl, Below.refl _ _⟩
  have hpos : 0 < l.length := List.length_pos_iff.2 hne
  have h0 := List.getElem?_eq_getElem hpos
  generalize l[0] = p0 at h0
  obtain ⟨x0, n0⟩ := p0
  obtain ⟨ad, rfl, _, hab, c0, _⟩ := hv0.at h0
  have c00 : w.cell? ad = some (.int .i64 x0) := c0
  have hl0 : ((l.length : Int) == 0) = false := by simp; omega
  have hl1 : (0 : Int) < (l.length : Int) := by omega
  generalize hR : stV l = R
  by_cases hx0 : x0 = 0
  · subst hx0
    have ht1 : stV (l.take 1) = true := by
      rw [take_snocP h0]; rfl
    have HT := Lib.hid ht1
    clear h0 hne ht1 c0
    go_enter Try.func16, Try.ntmps16
    go_wp2
    go_loopw [3] (fun i wr => ∃ k : Nat, Hid (1 ≤ k ∧ k ≤ l.length) ∧ i = .int .i64 k ∧ Hid (stV (l.take k) = true) ∧ Below w.heap.size w wr) (fun i _ => l.length - (intOf i).toNat)
    case atStart => exact ⟨1, Lib.hid (by omega), rfl, HT, Below.refl _ _⟩
    case round =>
      obtain ⟨k, hk, rfl, hok, hbr⟩ := hrel
      have hbz := hbr.size
      have hk0 := hk.out
      by_cases hlt : k < l.length
      · obtain ⟨m, rfl⟩ : ∃ m, k = m + 1 := ⟨k - 1, by omega⟩
        have hx := List.getElem?_eq_getElem hlt
        have hy := List.getElem?_eq_getElem (show m < l.length by omega)
        generalize l[m + 1] = p at hx
        generalize l[m] = q at hy
        obtain ⟨y1, y2⟩ := p
        obtain ⟨x1, x2⟩ := q
        obtain ⟨_, e1, _, hab1, c1, c2⟩ := (hv0.below hbr).at hx
        injection e1 with e1
        subst e1
        obtain ⟨_, e1, _, hab2, c3, c4⟩ := (hv0.below hbr).at hy
        injection e1 with e1
        subst e1
        dsimp only at c1 c2 c3 c4
        have f0 : ∀ p : After wr, p.w.cell? (ad.add ((m + 1) * 2)) = some (.int .i64 y1) := after_cell (by rw [add_block]; omega) c1
        have f1 : ∀ p : After wr, p.w.cell? ⟨(ad.add ((m + 1) * 2)).block, (ad.add ((m + 1) * 2)).off + 1, none⟩ = some (.int .i64 y2) := after_cell (by show (ad.add ((m + 1) * 2)).block < _; rw [add_block]; omega) c2
        have f2 : ∀ p : After wr, p.w.cell? (ad.add (m * 2)) = some (.int .i64 x1) := after_cell (by rw [add_block]; omega) c3
        have f3 : ∀ p : After wr, p.w.cell? ⟨(ad.add (m * 2)).block, (ad.add (m * 2)).off + 1, none⟩ = some (.int .i64 x2) := after_cell (by show (ad.add (m * 2)).block < _; rw [add_block]; omega) c4
        have i1 : IntKind.i64.wrap ((m : Int) + 1 - 1) = m := by rw [show (m : Int) + 1 - 1 = m by omega]; exact IntWalk.i64_in _ (by omega)
        have i7 : IntKind.i64.wrap (m : Int) = m := IntWalk.i64_in _ (by omega)
        have i2 : (0 : Int) ≤ (m : Int) := by omega
        have i3 : (m : Int) < (l.length : Int) := by omega
        have i4 : (m : Int) + 1 < (l.length : Int) := by omega
        have i5 : (0 : Int) ≤ (m : Int) + 1 := by omega
        have i6 : ((m : Int) + 1).toNat = m + 1 := by omega
        have i8 : IntKind.i64.wrap ((m : Int) + 1) = (m : Int) + 1 := IntWalk.i64_in _ (by omega)
        clear hk0
        by_cases h1 : y1 ≤ x1
        · skip
          have d1 : decide (y1 ≤ x1) = true := decide_eq_true (by omega)
          have hpb : pairB (x1, x2) (y1, y2) = false := by
            rw [Bool.eq_false_iff, ne_eq, pairB_iff]
            intro h
            have h1 : x1 < y1 := h.1
            have h2 : y1 < 1099511627776 := h.2.1
            have h3 : y2 ≠ x2 := h.2.2
            omega
          have hS : stV l = false := stV_pre (k := m + 1 + 1) (by omega) (by rw [stV_take hy hx, hpb, Bool.and_false])
          rw [hR] at hS
          subst hS
          clear hpb hx hy c1 c2 c3 c4 hok hR
          go_wp2
          (refine wp_region_after (by kernel_rfl) (by kernel_rfl) ?_; (repeat (go_big_quiet_step (fail))); refine wpQuiet_nil ?_; intro wq hw0; obtain ⟨⟨wq0, hbq⟩, hw1⟩ := hw0; subst hw1; (try dsimp only))
          go_wp2
          go_ret
          exact ⟨rfl, hbr.trans (hbq.mono hbz)⟩
        · by_cases h2 : y1 ≥ 1099511627776
          · skip
            have d1 : decide (y1 ≤ x1) = false := decide_eq_false (by omega)
            have d2 : decide (y1 ≥ 1099511627776) = true := decide_eq_true (by omega)
            have hpb : pairB (x1, x2) (y1, y2) = false := by
              rw [Bool.eq_false_iff, ne_eq, pairB_iff]
              intro h
              have h1 : x1 < y1 := h.1
              have h2 : y1 < 1099511627776 := h.2.1
              have h3 : y2 ≠ x2 := h.2.2
              omega
            have hS : stV l = false := stV_pre (k := m + 1 + 1) (by omega) (by rw [stV_take hy hx, hpb, Bool.and_false])
            rw [hR] at hS
            subst hS
            clear hpb hx hy c1 c2 c3 c4 hok hR
            go_wp2
            (refine wp_region_after (by kernel_rfl) (by kernel_rfl) ?_; (repeat (go_big_quiet_step (fail))); refine wpQuiet_nil ?_; intro wq hw0; obtain ⟨⟨wq0, hbq⟩, hw1⟩ := hw0; subst hw1; (try dsimp only))
            go_wp2
            go_ret
            exact ⟨rfl, hbr.trans (hbq.mono hbz)⟩
          · by_cases h3 : y2 = x2
            · skip
              have d1 : decide (y1 ≤ x1) = false := decide_eq_false (by omega)
              have d2 : decide (y1 ≥ 1099511627776) = false := decide_eq_false (by omega)
              have d3 : (y2 == x2) = true := by simp; omega
              have hpb : pairB (x1, x2) (y1, y2) = false := by
                rw [Bool.eq_false_iff, ne_eq, pairB_iff]
                intro h
                have h1 : x1 < y1 := h.1
                have h2 : y1 < 1099511627776 := h.2.1
                have h3 : y2 ≠ x2 := h.2.2
                omega
              have hS : stV l = false := stV_pre (k := m + 1 + 1) (by omega) (by rw [stV_take hy hx, hpb, Bool.and_false])
              rw [hR] at hS
              subst hS
              clear hpb hx hy c1 c2 c3 c4 hok hR
              go_wp2
              (refine wp_region_after (by kernel_rfl) (by kernel_rfl) ?_; (repeat (go_big_quiet_step (fail))); refine wpQuiet_nil ?_; intro wq hw0; obtain ⟨⟨wq0, hbq⟩, hw1⟩ := hw0; subst hw1; (try dsimp only))
              go_wp2
              go_ret
              exact ⟨rfl, hbr.trans (hbq.mono hbz)⟩
            · skip
              have d1 : decide (y1 ≤ x1) = false := decide_eq_false (by omega)
              have d2 : decide (y1 ≥ 1099511627776) = false := decide_eq_false (by omega)
              have d3 : (y2 == x2) = false := by simp; omega
              have hpb : pairB (x1, x2) (y1, y2) = true := pairB_iff.2 ⟨by show x1 < y1; omega, by show y1 < _; omega, by show y2 ≠ x2; omega⟩
              have hS : stV (l.take (m + 1 + 1)) = true := by rw [stV_take hy hx, hok.out, hpb]; rfl
              have HS := Lib.hid hS
              clear hS hpb hx hy c1 c2 c3 c4 hok
              go_wp2
              (refine wp_region_after (by kernel_rfl) (by kernel_rfl) ?_; (repeat (go_big_quiet_step (fail))); refine wpQuiet_nil ?_; intro wq hw0; obtain ⟨⟨wq0, hbq⟩, hw1⟩ := hw0; subst hw1; (try dsimp only))
              go_wp2
              go_roundw
              case rel => exact ⟨m + 1 + 1, Lib.hid (by omega), by go_num, HS, hbr.trans (hbq.mono hbz)⟩
              case measure => simp [intOf]; omega
      · have hT : l.take k = l := List.take_of_length_le (by omega)
        have hS := hok.out
        rw [hT, hR] at hS
        subst hS
        have hd : ¬ (k : Int) < l.length := by omega
        clear hT hk0 hok
        go_wp2
        go_ret
        exact ⟨rfl, hbr⟩
  · have hS : stV l = false := by
      cases l with
      | nil => rfl
      | cons a t =>
        simp at h0
        subst h0
        show (decide (x0 = 0) && stT x0 n0 t) = false
        rw [decide_eq_false hx0]; rfl
    rw [hR] at hS
    subst hS
    have hb0 : (x0 != 0) = true := by simpa using hx0
    clear h0 hne hR c0
    go_enter Try.func16, Try.ntmps16
    go_wp2
    go_ret
    exact ⟨rfl, Below.refl _ _⟩

end Go.Proofs.Ytbpjgipldddcfaa
