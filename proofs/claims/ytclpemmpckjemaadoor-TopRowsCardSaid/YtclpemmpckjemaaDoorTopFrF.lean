/-
  The program's word and Next: what each function answers. Conditions: lengths; the table lies as the rows say.
-/
import Derived.Test.YtclpemmpckjemaaDoorTopFrE
import Derived.Test.YtclpemmpckjemaaDoorQui
import Derived.Laws.CopyOwn
import Derived.WalkKit
import Derived.WalkSpells
import Derived.WalkLawsBesides
import Derived.Deep.QuietTactic
import Derived.BigQuiet
import Derived.Handy
import Derived.Lib.Hide
namespace Go.Proofs.YtclpemmpckjemaaDoor.Fr
open Go.RowKit

theorem or_sum (i a b : Nat) (h : b < 2 ^ i) (ha : 2 ^ i * a + b < 4294967296) : bits .or .u32 ((2 ^ i * a : Nat) : Int) (b : Int) = ((2 ^ i * a + b : Nat) : Int) := by
  rw [u32_or_nat _ _ (by omega) (by omega), Nat.two_pow_add_eq_or_of_lt h]
theorem word_or (a b c d : Nat) (ha : a < 256) (hb : b < 256) (hc : c < 256) (hd : d < 256) : bits .or .u32 (bits .or .u32 (bits .or .u32 ((a : Int) * 16777216) ((b : Int) * 65536)) ((c : Int) * 256)) (d : Int) = ((a * 16777216 + b * 65536 + c * 256 + d : Nat) : Int) := by
  have h1 := or_sum 24 a (b * 65536) (by omega) (by omega)
  have h2 := or_sum 16 (a * 256 + b) (c * 256) (by omega) (by omega)
  have h3 := or_sum 8 (a * 65536 + b * 256 + c) d (by omega) (by omega)
  have e1 : ((a : Int) * 16777216) = ((2 ^ 24 * a : Nat) : Int) := by omega
  have e2 : ((b : Int) * 65536) = ((b * 65536 : Nat) : Int) := by omega
  have e3 : ((2 ^ 24 * a + b * 65536 : Nat) : Int) = ((2 ^ 16 * (a * 256 + b) : Nat) : Int) := by omega
  have e4 : ((c : Int) * 256) = ((c * 256 : Nat) : Int) := by omega
  have e5 : ((2 ^ 16 * (a * 256 + b) + c * 256 : Nat) : Int) = ((2 ^ 8 * (a * 65536 + b * 256 + c) : Nat) : Int) := by omega
  rw [e1, e2, h1, e3, e4, h2, e5, h3]
  omega
set_option maxHeartbeats 800000 in
theorem word_any (v : Value) (l : List UInt8) (w : World) (L : Nat) (hv : RdB w L w.heap.size v l) (b0 b1 b2 b3 : UInt8) (t : List UInt8) (hl : l = b0 :: b1 :: b2 :: b3 :: t) :
    Calls Tryd.prog 24 #[v] w fun e w' => e = .returned (.int .u32 ((b0.toNat * 16777216 + b1.toNat * 65536 + b2.toNat * 256 + b3.toNat : Nat) : Int)) ∧ Below w.heap.size w w' := by
  have hv0 := hv
  obtain ⟨A, c, rfl, hl63, _, _⟩ := hv
  obtain ⟨ad, rfl, _, hB, h0⟩ := hv0.at (k := 0) (b := b0) (by rw [hl]; rfl)
  obtain ⟨ad1, e1, _, _, h1⟩ := hv0.at (k := 1) (b := b1) (by rw [hl]; rfl)
  obtain ⟨ad2, e2, _, _, h2⟩ := hv0.at (k := 2) (b := b2) (by rw [hl]; rfl)
  obtain ⟨ad3, e3, _, _, h3⟩ := hv0.at (k := 3) (b := b3) (by rw [hl]; rfl)
  injection e1 with e1; injection e2 with e2; injection e3 with e3
  subst e1 e2 e3
  have hlen : (4 : Int) ≤ l.length := by rw [hl]; simp; omega
  have k0 := b0.toNat_lt; have k1 := b1.toNat_lt; have k2 := b2.toNat_lt; have k3 := b3.toNat_lt
  clear hv0 hl
  have f0 := after_cell (a := ad) hB (show w.cell? ad = _ from by rw [show ad.add 0 = ad by unfold Addr.add; simp] at h0; exact h0)
  have f1 := after_cell (a := ⟨ad.block, ad.off + 1, none⟩) hB (show w.cell? ⟨ad.block, ad.off + 1, none⟩ = _ from by rw [show ad.add 1 = ⟨ad.block, ad.off + 1, none⟩ by unfold Addr.add; simp] at h1; exact h1)
  have f2 := after_cell (a := ⟨ad.block, ad.off + 2, none⟩) hB (show w.cell? ⟨ad.block, ad.off + 2, none⟩ = _ from by rw [show ad.add 2 = ⟨ad.block, ad.off + 2, none⟩ by unfold Addr.add; simp] at h2; exact h2)
  have f3 := after_cell (a := ⟨ad.block, ad.off + 3, none⟩) hB (show w.cell? ⟨ad.block, ad.off + 3, none⟩ = _ from by rw [show ad.add 3 = ⟨ad.block, ad.off + 3, none⟩ by unfold Addr.add; simp] at h3; exact h3)
  go_enter Tryd.func24, Tryd.ntmps24
  go_wp2_with fail
  (refine wp_region_after (by kernel_rfl) (by kernel_rfl) ?_; (repeat (go_big_quiet_step (fail))); refine wpQuiet_nil ?_; intro wq hw0; obtain ⟨⟨wq0, hbq⟩, hw1⟩ := hw0; subst hw1; (try dsimp only))
  have hw := word_or b0.toNat b1.toNat b2.toNat b3.toNat (by omega) (by omega) (by omega) (by omega)
  have HW := Lib.hid hw
  clear hw
  go_wp2
  go_ret
  exact ⟨by rw [← HW.out]; rfl, hbq⟩
end Go.Proofs.YtclpemmpckjemaaDoor.Fr
