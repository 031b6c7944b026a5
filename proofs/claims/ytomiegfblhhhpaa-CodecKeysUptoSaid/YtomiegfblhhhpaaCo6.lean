/-
  The reference's Int: what is read from any bytes at any offset. Conditions: lengths.
-/
import Derived.Test.YtomiegfblhhhpaaCo5
import Derived.Outline
import Derived.WalkKit
import Derived.WalkSpells
import Derived.WalkLawsBesides
import Derived.Deep.QuietTactic
import Derived.BigQuiet
import Derived.Handy
import Derived.Lib.Hide
namespace Go.Proofs.Ytomiegfblhhhpaa
open Go.RowKit

theorem add_shift (Z b k : Nat) (hZ : Z < 128 ^ k) (hk : k ≤ 9) (hb : k = 9 → b % 128 ≤ 1) : IntKind.u64.wrap ((b : Int) % 128 * ((128 ^ k : Nat) : Int)) = ((b % 128 * 128 ^ k : Nat) : Int) ∧ Z + b % 128 * 128 ^ k < 18446744073709551616 := by
  obtain ⟨_, h2⟩ := or_shift Z b k hZ hk hb
  refine ⟨?_, h2⟩
  rw [show (b : Int) % 128 * ((128 ^ k : Nat) : Int) = ((b % 128 * 128 ^ k : Nat) : Int) by rw [Int.natCast_mul, Int.natCast_emod]; rfl, IntKind.wrap_u64]
  omega
set_option maxRecDepth 100000 in
set_option maxHeartbeats 3200000 in
theorem rInt_any (v : Value) (l : List UInt8) (i : Int) (w : World) (L : Nat) (hv : RdB w L w.heap.size v l) :
    Calls Try.prog 12 #[v, .int .i64 i] w fun e w' => e = .returned (.tuple #[.int .i64 (intF l i).2.1, .int .i64 ((intF l i).2.2 : Nat), .int .i64 ((intF l i).1 : Nat)]) ∧ Below w.heap.size w w' := by
  have hv0 := hv
  obtain ⟨A, c, rfl, hl63, hlc, hx⟩ := hv
  by_cases h0 : 0 ≤ i ∧ i ≤ l.length
  · obtain ⟨P, rfl⟩ := Int.eq_ofNat_of_zero_le h0.1
    have hP : P ≤ l.length := by omega
    have h01 : ¬ (P : Int) < 0 := by omega
    have h02 : ¬ (P : Int) > l.length := by omega
    have HX := Lib.hid hx
    have HIN := Lib.hid (intF_in hP rfl)
    have hml : (l.drop P).length = l.length - P := List.length_drop
    clear hx hv0 h0
    go_enter Try.func12, Try.ntmps12
    go_wp2_with fail
    go_loopw [7, 8, 9] (fun z un i wr => ∃ k Z : Nat, k ≤ (l.drop P).length ∧ i = .int .i64 k ∧ z = .int .u64 Z ∧ un = .int .u64 (128 ^ k : Nat) ∧ Z < 128 ^ k ∧ k ≤ 9 ∧ Hid (decI 0 0 (l.drop P) = decI k Z ((l.drop P).drop k)) ∧ wr = w) (fun _ _ i _ => (l.drop P).length - (intOf i).toNat)
    case atStart => exact ⟨0, 0, Nat.zero_le _, rfl, rfl, rfl, by decide, by omega, Lib.hid rfl, rfl⟩
    case round =>
      obtain ⟨k, Z, hk, rfl, rfl, rfl, hZ, hk9, HD, rfl⟩ := hrel
      rw [hml] at hk
      by_cases hlt : k < (l.drop P).length
      · have hlt2 : P + k < l.length := by omega
        have hge : ¬ (P : Int) + k ≥ l.length := by omega
        have hge2 : (P : Int) + k < l.length := by omega
        have hge3 : (0 : Int) ≤ (P : Int) + k := by omega
        have hge4 : ((P : Int) + k).toNat = P + k := by omega
        obtain ⟨ad, rfl, _, _, hce⟩ := HX.out (P + k) _ (List.getElem?_eq_getElem hlt2)
        have hdd := decI_drop k Z (l.drop P) k hlt
        rw [List.getElem_drop] at hdd
        have hbl := (l[P + k]'hlt2).toNat_lt
        generalize l[P + k]'hlt2 = bb at *
        have HDD := Lib.hid hdd
        clear hdd
        by_cases ha : (k = 9 ∧ bb.toNat > 1) ∨ (0 < k ∧ bb.toNat = 0)
        · have HF := Lib.hid (show intF l P = (1, 0, 0) by rw [HIN.out, HD.out, HDD.out, if_pos ha]; rfl)
          generalize 128 ^ k = U at *
          by_cases k9 : k = 9
          · by_cases b1 : bb.toNat > 1
            · subst k9
              rw [show ad.add (P + 9) = (⟨ad.block, ad.off + (P + 9), none⟩ : Addr) by unfold Addr.add; simp] at hce
              have hg2 : (P : Int) + 9 < l.length := by omega
              have hg1 : ¬ (P : Int) + 9 ≥ l.length := by omega
              have hg3 : (0 : Int) ≤ (P : Int) + 9 := by omega
              have hg4 : ((P : Int) + 9).toNat = P + 9 := by omega
              clear hge hge2 hge3 hge4
              have c1i : (bb.toNat : Int) > 1 := by omega
              go_wp2_with fail
              go_ret3
              exact ⟨by rw [HF.out]; rfl, Below.refl _ _⟩
            · subst k9
              rw [show ad.add (P + 9) = (⟨ad.block, ad.off + (P + 9), none⟩ : Addr) by unfold Addr.add; simp] at hce
              have hg2 : (P : Int) + 9 < l.length := by omega
              have hg1 : ¬ (P : Int) + 9 ≥ l.length := by omega
              have hg3 : (0 : Int) ≤ (P : Int) + 9 := by omega
              have hg4 : ((P : Int) + 9).toNat = P + 9 := by omega
              clear hge hge2 hge3 hge4
              have c1i : ¬ (bb.toNat : Int) > 1 := by omega
              have c0i : (bb.toNat : Int) = 0 := by omega
              go_wp2_with fail
              go_ret3
              exact ⟨by rw [HF.out]; rfl, Below.refl _ _⟩
          · have k9i : ¬ (k : Int) = 9 := by omega
            have k0i : (k : Int) > 0 := by omega
            have c0i : (bb.toNat : Int) = 0 := by omega
            go_wp2_with fail
            go_ret3
            exact ⟨by rw [HF.out]; rfl, Below.refl _ _⟩
        · by_cases hb : bb.toNat < 128
          · by_cases k9 : k = 9
            · have hbb : ¬ bb.toNat > 1 := fun h => ha (.inl ⟨k9, h⟩)
              have hb0 : ¬ bb.toNat = 0 := fun h => ha (.inr ⟨by omega, h⟩)
              subst k9
              rw [show ad.add (P + 9) = (⟨ad.block, ad.off + (P + 9), none⟩ : Addr) by unfold Addr.add; simp] at hce
              have hg2 : (P : Int) + 9 < l.length := by omega
              have hg1 : ¬ (P : Int) + 9 ≥ l.length := by omega
              have hg3 : (0 : Int) ≤ (P : Int) + 9 := by omega
              have hg4 : ((P : Int) + 9).toNat = P + 9 := by omega
              clear hge hge2 hge3 hge4
              have c0i : ¬ (bb.toNat : Int) = 0 := by omega
              have c1i : ¬ (bb.toNat : Int) > 1 := by omega
              obtain ⟨hml1, hml2⟩ := add_shift Z bb.toNat 9 hZ hk9 (by omega)
              have HF := Lib.hid (show intF l P = (0, unzig (Z + bb.toNat % 128 * 128 ^ 9), P + (9 + 1)) by rw [HIN.out, HD.out, HDD.out, if_neg ha, if_pos hb]; rfl)
              have cbi : (bb.toNat : Int) < 128 := by omega
              have hpk : (P : Int) + 9 + 1 = ((P + (9 + 1) : Nat) : Int) := by omega
              have HPK := Lib.hid hpk
              have hpb : (P : Int) + 9 + 1 ≤ (l.length : Int) := by omega
              clear hpk
              have had : IntKind.u64.wrap ((Z : Int) + ((bb.toNat % 128 * 128 ^ 9 : Nat) : Int)) = ((Z + bb.toNat % 128 * 128 ^ 9 : Nat) : Int) := by rw [IntKind.wrap_u64, ← Int.natCast_add]; omega
              generalize 128 ^ 9 = U at *
              generalize hX : bb.toNat % 128 * U = X at *
              have had2 : (Z : Int) + X = ((Z + X : Nat) : Int) := by omega
              have HAD := Lib.hid had2
              clear had2 hX
              by_cases hodd : (Z + X) % 2 = 1
              · have ho : ((Z : Int) + X) % 2 = 1 := by omega
                have HU := Lib.hid (show -(((Z : Int) + X) / 2) - 1 = unzig (Z + X) by unfold unzig; rw [if_pos hodd]; omega)
                go_wp2_with fail
                go_ret3
                exact ⟨by rw [HF.out, ← HPK.out, ← HU.out]; rfl, Below.refl _ _⟩
              · have ho : ¬ ((Z : Int) + X) % 2 = 1 := by omega
                have HU := Lib.hid (show ((Z : Int) + X) / 2 = unzig (Z + X) by unfold unzig; rw [if_neg hodd]; omega)
                go_wp2_with fail
                go_ret3
                exact ⟨by rw [HF.out, ← HPK.out, ← HU.out]; rfl, Below.refl _ _⟩
            · have k9i : ¬ (k : Int) = 9 := by omega
              by_cases k0 : 0 < k
              · have hb0 : ¬ bb.toNat = 0 := fun h => ha (.inr ⟨k0, h⟩)
                have k0i : (k : Int) > 0 := by omega
                have c0i : ¬ (bb.toNat : Int) = 0 := by omega
                obtain ⟨hml1, hml2⟩ := add_shift Z bb.toNat k hZ hk9 (by omega)
                have HF := Lib.hid (show intF l P = (0, unzig (Z + bb.toNat % 128 * 128 ^ k), P + (k + 1)) by rw [HIN.out, HD.out, HDD.out, if_neg ha, if_pos hb]; rfl)
                have cbi : (bb.toNat : Int) < 128 := by omega
                have hpk : (P : Int) + k + 1 = ((P + (k + 1) : Nat) : Int) := by omega
                have HPK := Lib.hid hpk
                have hpb : (P : Int) + k + 1 ≤ (l.length : Int) := by omega
                clear hpk
                have had : IntKind.u64.wrap ((Z : Int) + ((bb.toNat % 128 * 128 ^ k : Nat) : Int)) = ((Z + bb.toNat % 128 * 128 ^ k : Nat) : Int) := by rw [IntKind.wrap_u64, ← Int.natCast_add]; omega
                generalize 128 ^ k = U at *
                generalize hX : bb.toNat % 128 * U = X at *
                have had2 : (Z : Int) + X = ((Z + X : Nat) : Int) := by omega
                have HAD := Lib.hid had2
                clear had2 hX
                by_cases hodd : (Z + X) % 2 = 1
                · have ho : ((Z : Int) + X) % 2 = 1 := by omega
                  have HU := Lib.hid (show -(((Z : Int) + X) / 2) - 1 = unzig (Z + X) by unfold unzig; rw [if_pos hodd]; omega)
                  go_wp2_with fail
                  go_ret3
                  exact ⟨by rw [HF.out, ← HPK.out, ← HU.out]; rfl, Below.refl _ _⟩
                · have ho : ¬ ((Z : Int) + X) % 2 = 1 := by omega
                  have HU := Lib.hid (show ((Z : Int) + X) / 2 = unzig (Z + X) by unfold unzig; rw [if_neg hodd]; omega)
                  go_wp2_with fail
                  go_ret3
                  exact ⟨by rw [HF.out, ← HPK.out, ← HU.out]; rfl, Below.refl _ _⟩
              · have k0i : ¬ (k : Int) > 0 := by omega
                obtain ⟨hml1, hml2⟩ := add_shift Z bb.toNat k hZ hk9 (by omega)
                have HF := Lib.hid (show intF l P = (0, unzig (Z + bb.toNat % 128 * 128 ^ k), P + (k + 1)) by rw [HIN.out, HD.out, HDD.out, if_neg ha, if_pos hb]; rfl)
                have cbi : (bb.toNat : Int) < 128 := by omega
                have hpk : (P : Int) + k + 1 = ((P + (k + 1) : Nat) : Int) := by omega
                have HPK := Lib.hid hpk
                have hpb : (P : Int) + k + 1 ≤ (l.length : Int) := by omega
                clear hpk
                have had : IntKind.u64.wrap ((Z : Int) + ((bb.toNat % 128 * 128 ^ k : Nat) : Int)) = ((Z + bb.toNat % 128 * 128 ^ k : Nat) : Int) := by rw [IntKind.wrap_u64, ← Int.natCast_add]; omega
                generalize 128 ^ k = U at *
                generalize hX : bb.toNat % 128 * U = X at *
                have had2 : (Z : Int) + X = ((Z + X : Nat) : Int) := by omega
                have HAD := Lib.hid had2
                clear had2 hX
                by_cases hodd : (Z + X) % 2 = 1
                · have ho : ((Z : Int) + X) % 2 = 1 := by omega
                  have HU := Lib.hid (show -(((Z : Int) + X) / 2) - 1 = unzig (Z + X) by unfold unzig; rw [if_pos hodd]; omega)
                  go_wp2_with fail
                  go_ret3
                  exact ⟨by rw [HF.out, ← HPK.out, ← HU.out]; rfl, Below.refl _ _⟩
                · have ho : ¬ ((Z : Int) + X) % 2 = 1 := by omega
                  have HU := Lib.hid (show ((Z : Int) + X) / 2 = unzig (Z + X) by unfold unzig; rw [if_neg hodd]; omega)
                  go_wp2_with fail
                  go_ret3
                  exact ⟨by rw [HF.out, ← HPK.out, ← HU.out]; rfl, Below.refl _ _⟩
          · have hn9 : k ≠ 9 := fun h => ha (.inl ⟨h, by omega⟩)
            have k9i : ¬ (k : Int) = 9 := by omega
            by_cases k0 : 0 < k
            · have k0i : (k : Int) > 0 := by omega
              have c0i : ¬ (bb.toNat : Int) = 0 := by omega
              obtain ⟨hml1, hml2⟩ := add_shift Z bb.toNat k hZ hk9 (by omega)
              have HD2 := Lib.hid (show decI 0 0 (l.drop P) = decI (k + 1) (Z + bb.toNat % 128 * 128 ^ k) ((l.drop P).drop (k + 1)) by rw [HD.out, HDD.out, if_neg ha, if_neg hb])
              have hZ2 : Z + bb.toNat % 128 * 128 ^ k < 128 ^ (k + 1) := by
                have h1 : bb.toNat % 128 * 128 ^ k ≤ 127 * 128 ^ k := Nat.mul_le_mul_right _ (by omega)
                rw [Nat.pow_succ]
                omega
              have HZ2 := Lib.hid hZ2
              have hU8 : (128 : Nat) ^ (k + 1) ≤ 128 ^ 9 := Nat.pow_le_pow_right (by decide) (by omega)
              have hU2 : IntKind.u64.wrap (((128 ^ k : Nat) : Int) * 128) = ((128 ^ (k + 1) : Nat) : Int) := by
                rw [Nat.pow_succ, Int.natCast_mul, IntKind.wrap_u64]
                rw [Nat.pow_succ] at hU8
                have : (128 : Nat) ^ 9 = 9223372036854775808 := by decide
                omega
              have HPS := Lib.hid (show ((128 ^ k : Nat) : Int) * 128 = ((128 ^ (k + 1) : Nat) : Int) by rw [Nat.pow_succ, Int.natCast_mul]; rfl)
              have cbi : ¬ (bb.toNat : Int) < 128 := by omega
              have hUs : (128 : Nat) ^ k * 128 ≤ 9223372036854775808 := by
                rw [Nat.pow_succ] at hU8
                have : (128 : Nat) ^ 9 = 9223372036854775808 := by decide
                omega
              clear hZ2 hU8
              generalize hU2e : 128 ^ (k + 1) = U2 at *
              have HU2E := Lib.hid hU2e
              clear hU2e
              generalize 128 ^ k = U at *
              generalize hX : bb.toNat % 128 * U = X at *
              have HAD := Lib.hid (show (Z : Int) + X = ((Z + X : Nat) : Int) by omega)
              clear hX
              go_wp2_with fail
              go_round
              case rel => exact ⟨k + 1, Z + X, by omega, by go_num, by rw [← HAD.out], by first | (rw [HU2E.out]; done) | (rw [HU2E.out, HPS.out]; done), by rw [HU2E.out]; exact HZ2.out, by omega, HD2, by first | rfl | trivial⟩
              case measure => simp [intOf]; omega
            · have k0i : ¬ (k : Int) > 0 := by omega
              obtain ⟨hml1, hml2⟩ := add_shift Z bb.toNat k hZ hk9 (by omega)
              have HD2 := Lib.hid (show decI 0 0 (l.drop P) = decI (k + 1) (Z + bb.toNat % 128 * 128 ^ k) ((l.drop P).drop (k + 1)) by rw [HD.out, HDD.out, if_neg ha, if_neg hb])
              have hZ2 : Z + bb.toNat % 128 * 128 ^ k < 128 ^ (k + 1) := by
                have h1 : bb.toNat % 128 * 128 ^ k ≤ 127 * 128 ^ k := Nat.mul_le_mul_right _ (by omega)
                rw [Nat.pow_succ]
                omega
              have HZ2 := Lib.hid hZ2
              have hU8 : (128 : Nat) ^ (k + 1) ≤ 128 ^ 9 := Nat.pow_le_pow_right (by decide) (by omega)
              have hU2 : IntKind.u64.wrap (((128 ^ k : Nat) : Int) * 128) = ((128 ^ (k + 1) : Nat) : Int) := by
                rw [Nat.pow_succ, Int.natCast_mul, IntKind.wrap_u64]
                rw [Nat.pow_succ] at hU8
                have : (128 : Nat) ^ 9 = 9223372036854775808 := by decide
                omega
              have HPS := Lib.hid (show ((128 ^ k : Nat) : Int) * 128 = ((128 ^ (k + 1) : Nat) : Int) by rw [Nat.pow_succ, Int.natCast_mul]; rfl)
              have cbi : ¬ (bb.toNat : Int) < 128 := by omega
              have hUs : (128 : Nat) ^ k * 128 ≤ 9223372036854775808 := by
                rw [Nat.pow_succ] at hU8
                have : (128 : Nat) ^ 9 = 9223372036854775808 := by decide
                omega
              clear hZ2 hU8
              generalize hU2e : 128 ^ (k + 1) = U2 at *
              have HU2E := Lib.hid hU2e
              clear hU2e
              generalize 128 ^ k = U at *
              generalize hX : bb.toNat % 128 * U = X at *
              have HAD := Lib.hid (show (Z : Int) + X = ((Z + X : Nat) : Int) by omega)
              clear hX
              go_wp2_with fail
              go_round
              case rel => exact ⟨k + 1, Z + X, by omega, by go_num, by rw [← HAD.out], by first | (rw [HU2E.out]; done) | (rw [HU2E.out, HPS.out]; done), by rw [HU2E.out]; exact HZ2.out, by omega, HD2, by first | rfl | trivial⟩
              case measure => simp [intOf]; omega
      · have hge : (P : Int) + k ≥ l.length := by omega
        have hkk : k = (l.drop P).length := by omega
        have HF := Lib.hid (show intF l P = (2, 0, 0) by rw [HIN.out, HD.out, hkk, List.drop_of_length_le (Nat.le_refl _)]; rfl)
        generalize 128 ^ k = U at *
        clear hkk
        go_wp2_with fail
        go_ret3
        exact ⟨by rw [HF.out]; rfl, Below.refl _ _⟩
  · have HF := Lib.hid (show intF l i = (6, 0, 0) by unfold intF; rw [if_pos (by omega)])
    by_cases hi : i < 0
    · clear hx hv0 h0
      go_enter Try.func12, Try.ntmps12
      go_wp2_with fail
      go_ret3
      exact ⟨by rw [HF.out]; rfl, Below.refl _ _⟩
    · have hi2 : i > l.length := by omega
      clear hx hv0 h0
      go_enter Try.func12, Try.ntmps12
      go_wp2_with fail
      go_ret3
      exact ⟨by rw [HF.out]; rfl, Below.refl _ _⟩
end Go.Proofs.Ytomiegfblhhhpaa
