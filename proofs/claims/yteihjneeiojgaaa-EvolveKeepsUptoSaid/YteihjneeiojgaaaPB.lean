import Derived.Test.YteihjneeiojgaaaPA
import Derived.Test.YteihjneeiojgaaaUB
import Derived.WalkKit
import Derived.WalkSpells
import Derived.WalkLawsBesides
import Derived.Deep.QuietTactic
import Derived.BigQuiet
import Derived.Handy
import Derived.Lib.Hide
/-
  slices.EqualFunc over foreign keys; the reference's List of expressions. Conditions: none. (Written by mkSsB.py.)
-/
namespace Go.Proofs.Yteihjneeiojgaaa
set_option maxRecDepth 100000
set_option linter.unusedVariables false
set_option linter.unusedSimpArgs false
open Go.RowKit

set_option maxRecDepth 100000 in
set_option maxHeartbeats 6400000 in
theorem rList_any (d : Nat) (xs ys : List Ex) (u v : Value) (w : World) (L L2 : Nat) (hu : RdE w L w.heap.size (d + 1) u xs) (hv : RdE w L2 w.heap.size (d + 1) v ys) :
    Calls Try.prog 18 #[u, v] w fun e' w' => e' = .returned (.bool (sameL (sameE d) xs ys)) ∧ Below w.heap.size w w' := by
  obtain ⟨A, c, rfl, hl, hc⟩ := hu
  obtain ⟨A2, c2, rfl, hl2, hc2⟩ := hv
  have HC := Lib.hid hc
  have HC2 := Lib.hid hc2
  clear hc hc2
  by_cases hln : xs.length = ys.length
  rotate_left
  · have hne : ((xs.length : Int) != (ys.length : Int)) = true := by rw [bne_iff_ne]; omega
    have HF := Lib.hid (sameL_len (sameE d) xs ys hln)
    clear hln
    go_enter Try.func18, Try.ntmps18
    go_wp2
    go_ret
    exact ⟨by rw [HF.out]; rfl, Below.refl _ _⟩
  have hne : ((xs.length : Int) != (ys.length : Int)) = false := by rw [bne_eq_false_iff_eq]; omega
  have HLN := Lib.hid hln
  clear hln
  go_enter Try.func18, Try.ntmps18
  go_wp2
  clear hne
  go_loopw [5] (fun i wr => ∃ k : Nat, k ≤ xs.length ∧ i = .int .i64 k ∧ Hid (sameL (sameE d) xs ys = sameL (sameE d) (xs.drop k) (ys.drop k)) ∧ Below w.heap.size w wr) (fun i _ => xs.length - (intOf i).toNat)
  case atStart => exact ⟨0, Nat.zero_le _, rfl, Lib.hid rfl, Below.refl _ _⟩
  case round =>
    obtain ⟨k, hk, rfl, HR, hbr⟩ := hrel
    have hbz := hbr.size
    by_cases hlt : k < xs.length
    · have hki : (k : Int) < xs.length := by omega
      have hlt2 : k < ys.length := by have := HLN.out; omega
      have hki2 : (k : Int) < ys.length := by omega
      have hki0 : (0 : Int) ≤ (k : Int) := by omega
      obtain ⟨ad, x, rfl, _, hab, hxc, hxr⟩ := HC.out k _ (List.getElem?_eq_getElem hlt)
      obtain ⟨A3, c3, rfl, hl3⟩ := hxr.slice
      obtain ⟨ad2, x2, rfl, _, hab2, hxc2, hxr2⟩ := HC2.out k _ (List.getElem?_eq_getElem hlt2)
      obtain ⟨A4, c4, rfl, hl4⟩ := hxr2.slice
      have hx := exc_after (hxc.below hbr (by rw [add_blk]; exact hab)) (by rw [add_blk]; omega)
      have hx2 := exc_after (hxc2.below hbr (by rw [add_blk]; exact hab2)) (by rw [add_blk]; omega)
      have hsd := sameL_drop (sameE d) xs ys k _ _ (List.getElem?_eq_getElem hlt) (List.getElem?_eq_getElem hlt2)
      rw [← HR.out] at hsd
      have HSD := Lib.hid hsd
      clear hxc hxc2 hsd HR
      generalize xs[k] = y at *
      generalize ys[k] = z at *
      have RY := (hxr.below hbr).more hbz (Nat.le_refl _)
      have RZ := (hxr2.below hbr).more hbz (Nat.le_refl _)
      have HX := Lib.hid (fun r : After wr => rSame_any d y z A3 A4 c3 c4 r.w L L2 (RY.step r.h (Nat.le_refl _)) (RZ.step r.h (Nat.le_refl _)))
      unfold exV at HX
      obtain ⟨d0, d1, d2, d3, d4, d5, d6⟩ := hx
      obtain ⟨f0, f1, f2, f3, f4, f5, f6⟩ := hx2
      clear RY RZ hxr hxr2
      cases hb : sameE d y z
      · rw [hb] at HX HSD
        have HF := Lib.hid (show sameL (sameE d) xs ys = false by rw [HSD.out]; rfl)
        clear HSD hb
        go_wp2_with fail
        (refine wp_region_after (by kernel_rfl) (by kernel_rfl) ?_; (repeat (go_big_quiet_step ((go_at_call 38; exact calls_after (HX.out _))))); refine wpQuiet_nil ?_; intro wq hw0; obtain ⟨⟨wq0, hbq⟩, hw1⟩ := hw0; subst hw1; (try dsimp only))
        clear d0 d1 d2 d3 d4 d5 d6 f0 f1 f2 f3 f4 f5 f6
        go_wp2
        go_ret
        exact ⟨by rw [HF.out]; rfl, hbr.trans (hbq.mono hbz)⟩
      · rw [hb] at HX HSD
        have HF := Lib.hid (show sameL (sameE d) xs ys = sameL (sameE d) (xs.drop (k + 1)) (ys.drop (k + 1)) by rw [HSD.out, Bool.true_and])
        clear HSD hb
        go_wp2_with fail
        (refine wp_region_after (by kernel_rfl) (by kernel_rfl) ?_; (repeat (go_big_quiet_step ((go_at_call 38; exact calls_after (HX.out _))))); refine wpQuiet_nil ?_; intro wq hw0; obtain ⟨⟨wq0, hbq⟩, hw1⟩ := hw0; subst hw1; (try dsimp only))
        clear d0 d1 d2 d3 d4 d5 d6 f0 f1 f2 f3 f4 f5 f6
        go_wp2
        go_roundw
        case rel => exact ⟨k + 1, by omega, by go_num, HF, hbr.trans (hbq.mono hbz)⟩
        case measure => simp [intOf]; omega
    · have hki : ¬ (k : Int) < xs.length := by omega
      have HF := Lib.hid (show sameL (sameE d) xs ys = true by rw [HR.out, List.drop_eq_nil_of_le (by omega), List.drop_eq_nil_of_le (by have := HLN.out; omega)]; rfl)
      clear HR
      go_wp2
      go_ret
      exact ⟨by rw [HF.out]; rfl, hbr⟩
end Go.Proofs.Yteihjneeiojgaaa
