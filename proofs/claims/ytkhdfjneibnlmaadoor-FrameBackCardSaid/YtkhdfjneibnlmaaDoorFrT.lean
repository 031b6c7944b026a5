/-
  lists of the statements: what it answers where both sides hold the same bytes. Conditions: none.
-/
import Derived.Test.YtkhdfjneibnlmaaDoorFrQ
import Derived.Test.YtkhdfjneibnlmaaDoorFrEq
import Derived.Outline
import Derived.WalkKit
import Derived.WalkSpells
import Derived.WalkLawsBesides
import Derived.Deep.QuietTactic
import Derived.BigQuiet
import Derived.Handy
import Derived.Lib.Hide
namespace Go.Proofs.YtkhdfjneibnlmaaDoor
open Go.RowKit

theorem RdS.of_row {w : World} {base : Nat} {v : Value} {ms : List (List UInt8)} (h : RowS w base v ms) (hl : ms.length ≤ 9223372036854775807) : RdS w 0 w.heap.size v ms := by
  obtain ⟨vs, h1, h2⟩ := h
  rcases h1.2 with ⟨rfl, h0⟩ | ⟨g, cap, cur, rfl, hb, hh, hn, hc, hs, ht⟩
  · obtain rfl := List.eq_nil_of_length_eq_zero h0
    exact ⟨none, 0, rfl, hl, fun k n hk => by simp at hk⟩
  · refine ⟨_, cap, rfl, hl, fun k p hk => ?_⟩
    obtain ⟨u, h3, h4, _⟩ := h2 k p hk
    have hkl : k < ms.length := (List.getElem?_eq_some_iff.1 hk).1
    refine ⟨_, u, rfl, ?_, h4⟩
    rw [show (⟨g, 0, none⟩ : Addr).add k = ⟨g, k, none⟩ by unfold Addr.add; split <;> simp_all, cell_of_row w g k cur _ _ hh, ← h3, ← ht, ← Array.getElem?_toList, List.getElem?_take, if_pos (by omega)]
theorem RdS.step {w w' : World} {L : Nat} {v : Value} {ps : List (List UInt8)} (h : RdS w L w.heap.size v ps) (hb : Below w.heap.size w w') (hA : ∀ ad n c, v = .slice (some ad) n c → 0 < n → ad.block < w.heap.size) : RdS w' L w'.heap.size v ps := by
  obtain ⟨A, c, rfl, hl, hx⟩ := h
  refine ⟨A, c, rfl, hl, fun k p hk => ?_⟩
  obtain ⟨ad, u, rfl, h1, h2⟩ := hx k p hk
  have hkl := (List.getElem?_eq_some_iff.1 hk).1
  exact ⟨ad, u, rfl, (hb.cell (p := ad.add k) (by rw [add_block]; exact hA ad _ _ rfl (by omega))).trans h1, h2.step hb (Nat.le_refl _)⟩
theorem cell_ltB {w : World} {a : Addr} {v : Value} (h : w.cell? a = some v) : a.block < w.heap.size := by
  rcases Nat.lt_or_ge a.block w.heap.size with h1 | h1
  · exact h1
  · unfold World.cell? at h
    rw [Array.getElem?_eq_none h1] at h
    cases h
set_option maxRecDepth 100000 in
set_option maxHeartbeats 1600000 in
theorem lists_any (v u : Value) (ms : List (List UInt8)) (w : World) (L L2 : Nat) (hv : RdS w L w.heap.size v ms) (hu : RdS w L2 w.heap.size u ms) :
    Calls Tryd.prog 21 #[v, u] w fun e w' => e = .returned (.bool true) ∧ Below w.heap.size w w' := by
  obtain ⟨A, c, rfl, hl, hc⟩ := hv
  obtain ⟨A2, c2, rfl, _, hc2⟩ := hu
  have HC := Lib.hid hc
  have HC2 := Lib.hid hc2
  clear hc hc2
  go_enter Tryd.func21, Tryd.ntmps21
  go_wp2
  go_loopw [13] (fun i wr => ∃ k : Nat, k ≤ ms.length ∧ i = .int .i64 k ∧ Below w.heap.size w wr) (fun i _ => ms.length - (intOf i).toNat)
  case atStart => exact ⟨0, Nat.zero_le _, rfl, Below.refl _ _⟩
  case round =>
    obtain ⟨k, hk, rfl, hbr⟩ := hrel
    by_cases hlt : k < ms.length
    · have hki : (k : Int) < ms.length := by omega
      obtain ⟨ad, u1, rfl, c1, r1⟩ := HC.out k _ (List.getElem?_eq_getElem hlt)
      obtain ⟨ad2, u2, rfl, d1, r2⟩ := HC2.out k _ (List.getElem?_eq_getElem hlt)
      have f1 : ∀ p : After wr, p.w.cell? (ad.add k) = some u1 := fun p => (hbr.trans (p.h.mono hbr.size)).cell (cell_ltB c1) |>.trans c1
      have f2 : ∀ p : After wr, p.w.cell? (ad2.add k) = some u2 := fun p => (hbr.trans (p.h.mono hbr.size)).cell (cell_ltB d1) |>.trans d1
      have g1 : ∀ p : After wr, (convert 22 9 u1).run Tryd.prog p.w = .ok (.string (ByteArray.mk (ms[k]'hlt).toArray)) p.w := fun p => conv_rdB (r1.step (hbr.trans (p.h.mono hbr.size)) (Nat.le_refl _))
      have g2 : ∀ p : After wr, (convert 22 9 u2).run Tryd.prog p.w = .ok (.string (ByteArray.mk (ms[k]'hlt).toArray)) p.w := fun p => conv_rdB (r2.step (hbr.trans (p.h.mono hbr.size)) (Nat.le_refl _))
      generalize ByteArray.mk (ms[k]'hlt).toArray = s at *
      clear c1 d1 r1 r2
      go_wp2_with fail
      (refine wp_region_after (by kernel_rfl) (by kernel_rfl) ?_; (repeat (go_big_quiet_step (fail))); refine wpQuiet_nil ?_; intro wq hw0; obtain ⟨⟨wq0, hbq⟩, hw1⟩ := hw0; subst hw1; (try dsimp only))
      go_wp2_with fail
      go_round
      case rel => exact ⟨k + 1, by omega, by go_num, hbr.trans (hbq.mono hbr.size)⟩
      case measure => simp [intOf]; omega
    · have hki : ¬ (k : Int) < ms.length := by omega
      go_wp2
      go_ret
      exact ⟨rfl, hbr⟩
end Go.Proofs.YtkhdfjneibnlmaaDoor
