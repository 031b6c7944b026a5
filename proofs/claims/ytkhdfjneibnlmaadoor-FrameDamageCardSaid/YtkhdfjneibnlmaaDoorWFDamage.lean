/-
  The walk of FrameDamage. Conditions: the table lies as the rows say; lengths.
-/
import Derived.Test.YtkhdfjneibnlmaaDoorFrDm
import Derived.Outline
import Derived.WalkKit
import Derived.WalkSpells
import Derived.WalkLawsBesides
import Derived.Deep.QuietTactic
import Derived.BigQuiet
import Derived.Handy
import Derived.Lib.Hide
namespace Go.Proofs.YtkhdfjneibnlmaaDoor
open Go.RowKit

theorem xor_val (b : UInt8) (j : Nat) (hj : j < 8) : ∃ x : UInt8, bits .xor .u8 (b.toNat : Int) ((2 : Int) ^ j % 256) = (x.toNat : Int) ∧ x ≠ b := by
  have hb := b.toNat_lt
  obtain ⟨hp0, hp⟩ := (show ∀ j : Fin 8, 0 < 2 ^ j.val ∧ 2 ^ j.val < 256 by decide) ⟨j, hj⟩
  have e1 := (show ∀ j : Fin 8, (2 : Int) ^ j.val % 256 = ((2 ^ j.val : Nat) : Int) by decide) ⟨j, hj⟩
  dsimp only at hp0 hp e1
  have hx : b.toNat ^^^ 2 ^ j < 256 := Nat.xor_lt_two_pow (n := 8) hb hp
  refine ⟨UInt8.ofNat (b.toNat ^^^ 2 ^ j), ?_, ?_⟩
  · rw [e1, u8_xor_nat _ _ hb hp, UInt8.toNat_ofNat', Nat.mod_eq_of_lt hx]
  · intro h
    have h2 := congrArg UInt8.toNat h
    rw [UInt8.toNat_ofNat', Nat.mod_eq_of_lt hx] at h2
    have h3 := congrArg (b.toNat ^^^ ·) h2
    simp only [← Nat.xor_assoc, Nat.xor_self, Nat.zero_xor] at h3
    omega
set_option maxRecDepth 100000 in
set_option maxHeartbeats 6400000 in
theorem law_damage (v u : Value) (l m : List UInt8) (at_ bit : Nat) (w : World) (L L2 : Nat) (henv : Env w) (hv : RdB w L w.heap.size v l) (hu : RdB w L2 w.heap.size u m) (hun : ∀ n c, u = .slice none n c → c = 0) (hl : l.length ≤ 1099511627776000) (hm : m.length ≤ 1099511627776000) (ha : at_ < 65536) (hbit : bit < 256) :
    Calls Tryd.prog 8 #[v, u, .int .u16 at_, .int .u8 bit] w fun e w' => e = .returned (.bool true) ∧ Below w.heap.size w w' := by
  have hv0 := hv
  have hu0 := hu
  obtain ⟨A, c, rfl, hl63, hlc, _⟩ := hv
  obtain ⟨A2, c2, rfl, hm63, hmc, _⟩ := hu
  by_cases h5 : l.length + m.length > 5000
  · have h5i : (l.length : Int) + m.length > 5000 := by omega
    go_enter Tryd.func8, Tryd.ntmps8
    go_wp2_with (go_at_call 11; refine (works_any _ henv).mono ?_; rintro e w1 ⟨rfl, hb1⟩)
    go_ret
    exact ⟨rfl, hb1⟩
  · have h5i : ¬ (l.length : Int) + m.length > 5000 := by omega
    have hp := pAppend_any _ _ l m w L L2 henv hv0 hu0 (by omega) (by omega) hun
    have hln := pLen_any (m.length : Int)
    rw [show lenF (m.length : Int) = 8 + (m.length : Int) by unfold lenF; rw [if_neg (by omega)]] at hln
    have HP := Lib.hid hp
    have HLN := Lib.hid hln
    clear hp hln hv0 hu0
    go_enter Tryd.func8, Tryd.ntmps8
    go_wp2_with fail
    with_reducible refine HP.out.mono ?_
    rintro e w1 ⟨v1, rfl, ho1, B1⟩
    have hfl : (frmL l m).length = l.length + 8 + m.length := by unfold frmL; simp [be4]; omega
    obtain ⟨g, cap, hvv⟩ := Go.Joins.ownsRow_form ho1 (by omega)
    subst hvv
    have O1 := Lib.hid ho1
    have HFL := Lib.hid hfl
    rw [hfl]
    obtain ⟨q, hq, hq4⟩ : ∃ q : Nat, (at_ : Int) % (4 + (m.length : Int)) = (q : Int) ∧ q < 4 + m.length := ⟨at_ % (4 + m.length), by rw [Int.natCast_emod, Int.natCast_add]; rfl, Nat.mod_lt _ (by omega)⟩
    obtain ⟨K, hK, hKv⟩ : ∃ K : Nat, wrap64 ((l.length : Int) + 4 + (at_ : Int) % (4 + (m.length : Int))) = (K : Int) ∧ K = l.length + 4 + q := ⟨l.length + 4 + q, by rw [hq]; unfold wrap64; omega, rfl⟩
    have hKl : K < (frmL l m).length := by omega
    have hRD := RdB.of_own O1.out (by omega)
    obtain ⟨bb, hbb⟩ : ∃ bb, (frmL l m)[K]? = some bb := ⟨_, List.getElem?_eq_getElem hKl⟩
    obtain ⟨ad, e1, _, hgb, hcell⟩ := hRD.at (k := K) hbb
    injection e1 with e1
    subst e1
    rw [cell_add0] at hcell
    have hfz : w1.frozen? ⟨g, K, none⟩ = false := by
      rcases ho1.2 with ⟨h', _⟩ | ⟨g', cap', cur, h', hb, hg, _⟩
      · simp at h'
      · simp only [Value.slice.injEq, Option.some.injEq, Addr.mk.injEq, and_true, true_and] at h'
        obtain ⟨rfl, rfl⟩ := h'
        exact Own.free hg K
    have hKi : (K : Int) < (l.length : Int) + 8 + m.length := by omega
    have hb0 := bb.toNat_lt
    have HBB := Lib.hid hbb
    have HQ := Lib.hid hq4
    have HKV := Lib.hid hKv
    have HKL := Lib.hid hKl
    clear ho1 HP hfl hq hq4 hKv hRD hbb hKl
    go_wp2_with (go_at_call 15; with_reducible refine (HLN.out _).mono ?_; rintro e w2 ⟨rfl, rfl⟩)
    obtain ⟨x, hx, hxb⟩ := xor_val bb (bit % 8) (Nat.mod_lt _ (by decide))
    rw [hx]
    have hwg : w.heap.size ≤ g := by
      rcases O1.out.2 with ⟨h', _⟩ | ⟨g', cap', cur, h', hb, _⟩
      · simp at h'
      · simp only [Value.slice.injEq, Option.some.injEq, Addr.mk.injEq, and_true, true_and] at h'
        obtain ⟨rfl, rfl⟩ := h'
        exact hb
    have O2 := (O1.out.stored K (.int .u8 (x.toNat : Nat))).1
    have hmap : (bytV (frmL l m)).set K (.int .u8 (x.toNat : Nat)) = bytV ((frmL l m).set K x) := by unfold bytV; rw [List.map_set]
    have hls : (frmL l m).length = ((frmL l m).set K x).length := List.length_set.symm
    rw [hmap, hls] at O2
    have hl2 : ((frmL l m).set K x).length = l.length + 8 + m.length := by rw [List.length_set, HFL.out]
    have hR2 := RdB.of_own O2 (by omega)
    have B2 : Below w.heap.size w (w2.setCell ⟨g, K, none⟩ (.int .u8 (x.toNat : Nat))) := B1.setCell hwg _
    have hN := pNext_any _ _ (l.length : Int) _ w.heap.size (henv.step B2) hR2
    have hnf : nextF ((frmL l m).set K x) (l.length : Int) = (4, [], 0) := by
      unfold nextF
      rw [if_neg (by omega), Int.toNat_natCast]
      have hs : (frmL l m).set K x = l ++ (be4 m.length ++ ((be4 (crc (be4 m.length ++ m)) ++ m).set q x)) := by
        unfold frmL
        rw [List.append_assoc, List.append_assoc, HKV.out, List.set_append_right _ _ (by omega), List.set_append_right _ _ (by show 4 ≤ _; omega)]
        congr 3
        show l.length + 4 + q - l.length - 4 = q
        omega
      rw [hs, List.drop_left]
      refine damage m (by omega) q x HQ.out ?_ _
      intro e
      have h2 := HBB.out
      unfold frmL at h2
      rw [List.append_assoc, List.append_assoc, HKV.out, List.getElem?_append_right (by omega), List.getElem?_append_right (by show 4 ≤ _; omega)] at h2
      rw [show l.length + 4 + q - l.length - (be4 m.length).length = q by show l.length + 4 + q - l.length - 4 = q; omega, ← e] at h2
      exact hxb (Option.some.inj h2)
    rw [hnf, hl2] at hN
    with_reducible refine hN.mono ?_
    rintro e w4 ⟨v4, rfl, _, hb4⟩
    have B4 := B2.trans (hb4.mono B2.size)
    have hwk := works_any w4 (henv.step B4)
    clear hN hR2 O2 hnf hx hxb
    go_wp2_with fail
    with_reducible refine hwk.mono ?_
    rintro e w5 ⟨rfl, b5⟩
    go_wp2_with fail
    go_ret
    exact ⟨rfl, B4.trans (b5.mono B4.size)⟩
end Go.Proofs.YtkhdfjneibnlmaaDoor
