import Derived.Test.YthnmcpfmljibeaaGreatRR
import Derived.Test.YthnmcpfmljibeaaGreatUA
import Derived.WalkKit
import Derived.WalkSpells
import Derived.WalkLawsBesides
import Derived.Deep.QuietTactic
import Derived.BigQuiet
import Derived.Handy
import Derived.Lib.Hide
/-
  The reference's List over two readings of the same trees. Conditions: lengths, a bounded depth.
-/
namespace Go.Proofs.YthnmcpfmljibeaaGreat
set_option maxRecDepth 100000
set_option linter.unusedVariables false
set_option linter.unusedSimpArgs false
open Go.RowKit

theorem sameL_selfP (f : Ex → Ex → Bool) : ∀ l : List Ex, (∀ a ∈ l, f a a = true) → sameL f l l = true
  | [], _ => rfl
  | a :: l, h => by
    unfold sameL
    rw [h a (List.mem_cons_self ..), sameL_selfP f l fun b hb => h b (List.mem_cons_of_mem _ hb)]
    rfl
theorem sameE_selfP : ∀ (d : Nat) (a : Ex), sameE d a a = true
  | 0, _ => rfl
  | d + 1, a => by
    unfold sameE
    rw [sameL_selfP (sameE d) a.args fun b _ => sameE_selfP d b]
    unfold sameF Va.eqV
    simp
set_option maxRecDepth 100000 in
set_option maxHeartbeats 6400000 in
theorem rList_self (d : Nat) (es : List Ex) (u v : Value) (w : World) (L L2 : Nat) (hu : RdE w L w.heap.size (d + 1) u es) (hv : RdE w L2 w.heap.size (d + 1) v es) :
    Calls Tryz.prog 26 #[u, v] w fun e' w' => e' = .returned (.bool true) ∧ Below w.heap.size w w' := by
  obtain ⟨A, c, rfl, hl, hc⟩ := hu
  obtain ⟨A2, c2, rfl, _, hc2⟩ := hv
  have HC := Lib.hid hc
  have HC2 := Lib.hid hc2
  have hnn : ((es.length : Int) != es.length) = false := by simp
  clear hc hc2
  go_enter Tryz.func26, Tryz.ntmps26
  go_wp2_with fail
  go_loopw [5] (fun i wr => ∃ k : Nat, k ≤ es.length ∧ i = .int .i64 k ∧ Below w.heap.size w wr) (fun i _ => es.length - (intOf i).toNat)
  case atStart => exact ⟨0, Nat.zero_le _, rfl, Below.refl _ _⟩
  case round =>
    obtain ⟨k, hk, rfl, hbr⟩ := hrel
    have hbz := hbr.size
    by_cases hlt : k < es.length
    · have hki : (k : Int) < es.length := by omega
      have hkl : (k : Int) + 1 ≤ 1099511627776 := by omega
      obtain ⟨ad, x, rfl, _, hab, hxc, hxr⟩ := HC.out k _ (List.getElem?_eq_getElem hlt)
      obtain ⟨ad2, x2, rfl, _, hab2, hxc2, hxr2⟩ := HC2.out k _ (List.getElem?_eq_getElem hlt)
      generalize es[k] = y at *
      obtain ⟨A3, c3, rfl, hl3⟩ := hxr.slice
      obtain ⟨A4, c4, rfl, hl4⟩ := hxr2.slice
      obtain ⟨f0, f1, f2, f3, f4, f5, f6⟩ := exc_after (hxc.below hbr (by rw [add_blk]; exact hab)) (by rw [add_blk]; omega)
      obtain ⟨g0, g1, g2, g3, g4, g5, g6⟩ := exc_after (hxc2.below hbr (by rw [add_blk]; exact hab2)) (by rw [add_blk]; omega)
      have R1 := (hxr.below hbr).more hbz (Nat.le_refl _)
      have R2 := (hxr2.below hbr).more hbz (Nat.le_refl _)
      have H := Lib.hid (fun r : After wr => rSame_any d y y A3 A4 c3 c4 r.w L L2 (R1.step r.h (Nat.le_refl _)) (R2.step r.h (Nat.le_refl _)))
      rw [sameE_selfP] at H
      unfold exV at H
      clear R1 R2 hxc hxr hxc2 hxr2
      go_wp2
      (refine wp_region_after (by kernel_rfl) (by kernel_rfl) ?_; (repeat (go_big_quiet_step ((go_at_call 57; exact calls_after (H.out _))))); refine wpQuiet_nil ?_; intro wq hw0; obtain ⟨⟨wq0, hbq⟩, hw1⟩ := hw0; subst hw1; (try dsimp only))
      go_wp2
      go_roundw
      case rel => exact ⟨k + 1, by omega, by go_num, hbr.trans (hbq.mono hbz)⟩
      case measure => simp [intOf]; omega
    · have hki : ¬ (k : Int) < es.length := by omega
      go_wp2
      go_ret
      exact ⟨rfl, hbr⟩
end Go.Proofs.YthnmcpfmljibeaaGreat
