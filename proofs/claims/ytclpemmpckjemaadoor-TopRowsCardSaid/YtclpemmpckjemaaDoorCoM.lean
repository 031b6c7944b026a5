/-
  Mathematics of the encoding: what is put is read again, and what is read has just the bytes that are put for it. Conditions: none.
-/
import Derived.Test.YtclpemmpckjemaaDoorCoRl
import Derived.WalkKit
import Derived.WalkSpells
import Derived.WalkLawsBesides
import Derived.Deep.QuietTactic
import Derived.BigQuiet
import Derived.Handy
import Derived.Lib.Hide
namespace Go.Proofs.YtclpemmpckjemaaDoor
open Go.RowKit

/-! ### numbers -/
theorem byte_lt {q : Nat} (h : q < 256) : (UInt8.ofNat q).toNat = q := by rw [UInt8.toNat_ofNat']; omega
theorem decI_put : ∀ (N q : Nat), q < N → ∀ (i z : Nat) (r : List UInt8), i ≤ 9 → q * 128 ^ i < 18446744073709551616 → (0 < i → 0 < q) → decI i z (vint q ++ r) = (0, z + q * 128 ^ i, i + (vint q).length) := by
  intro N
  induction N with
  | zero => intro q h; omega
  | succ N ih =>
    intro q hN i z r hi hq h0
    have h9 : i = 9 → q ≤ 1 := fun e => by subst e; have : (128 : Nat) ^ 9 = 9223372036854775808 := by decide
                                           omega
    by_cases h : q < 128
    · rw [vint_last h]
      show decI i z (UInt8.ofNat q :: r) = _
      unfold decI
      rw [byte_lt (by omega), if_neg (by omega), if_pos h, Nat.mod_eq_of_lt h]
      rfl
    · rw [vint_more h]
      show decI i z (UInt8.ofNat (q % 128 + 128) :: (vint (q / 128) ++ r)) = _
      unfold decI
      rw [byte_lt (by omega), if_neg (by omega), if_neg (by omega)]
      have hi8 : i ≠ 9 := fun e => by have := h9 e; omega
      have hp : (128 : Nat) ^ (i + 1) = 128 * 128 ^ i := by rw [Nat.pow_succ, Nat.mul_comm]
      have hdm : 128 * (q / 128) + q % 128 = q := Nat.div_add_mod q 128
      have hle : q / 128 * (128 * 128 ^ i) ≤ q * 128 ^ i := by
        rw [← Nat.mul_assoc]
        exact Nat.mul_le_mul_right _ (by omega)
      rw [ih (q / 128) (by omega) (i + 1) _ r (by omega) (by rw [hp]; omega) (by omega), hp]
      have e1 : z + (q % 128 + 128) % 128 * 128 ^ i + q / 128 * (128 * 128 ^ i) = z + q * 128 ^ i := by
        have e2 : (q % 128 + 128) % 128 = q % 128 := by omega
        rw [e2, ← Nat.mul_assoc, Nat.add_assoc, ← Nat.add_mul, show q % 128 + q / 128 * 128 = q by omega]
      rw [e1, List.length_cons]
      congr 2
      omega
theorem intF_put (l r : List UInt8) (n : Int) (hn : I64 n) : intF (l ++ (vint (zig n) ++ r)) l.length = (0, n, l.length + (vint (zig n)).length) := by
  have hm : (l ++ (vint (zig n) ++ r)).drop l.length = vint (zig n) ++ r := List.drop_left' rfl
  rw [intF_in (by rw [List.length_append]; omega) hm, decI_put (zig n + 1) (zig n) (by omega) 0 0 r (by omega) (by have := zig_lt hn; omega) (by omega)]
  dsimp only
  rw [if_pos rfl, Nat.pow_zero, Nat.mul_one, Nat.zero_add, Nat.zero_add, unzig_zig]
theorem decI_back : ∀ (m : List UInt8) (i z : Nat), (decI i z m).1 = 0 → ∃ q, (decI i z m).2.1 = z + q * 128 ^ i ∧ i ≤ (decI i z m).2.2 ∧ m.take ((decI i z m).2.2 - i) = vint q ∧ (0 < i → 0 < q) := by
  intro m
  induction m with
  | nil => intro i z h; simp [decI] at h
  | cons c t ih =>
    intro i z h
    have hc := c.toNat_lt
    unfold decI at h ⊢
    split at h
    · simp at h
    · rename_i h1
      rw [if_neg h1]
      split at h
      · rename_i h2
        rw [if_pos h2]
        refine ⟨c.toNat, by dsimp only; rw [Nat.mod_eq_of_lt h2], by dsimp only; omega, ?_, by omega⟩
        dsimp only
        rw [show i + 1 - i = 1 by omega, vint_last h2]
        simp
      · rename_i h2
        rw [if_neg h2]
        obtain ⟨q, h3, h4, h5, h6⟩ := ih _ _ h
        have hq := h6 (by omega)
        have h2' : 128 ≤ c.toNat := by omega
        refine ⟨c.toNat % 128 + 128 * q, ?_, by omega, ?_, by omega⟩
        · rw [h3, Nat.pow_succ, Nat.add_mul]
          have : q * (128 ^ i * 128) = 128 * q * 128 ^ i := by rw [Nat.mul_comm (128 ^ i), ← Nat.mul_assoc, Nat.mul_comm q]
          omega
        · generalize (decI (i + 1) (z + c.toNat % 128 * 128 ^ i) t).2.2 = e at *
          rw [show e - i = (e - (i + 1)) + 1 by omega, List.take_succ_cons, h5, vint_more (z := c.toNat % 128 + 128 * q) (by omega)]
          have e1 : (c.toNat % 128 + 128 * q) % 128 = c.toNat % 128 := by omega
          have e2 : (c.toNat % 128 + 128 * q) / 128 = q := by omega
          rw [e1, e2]
          congr 1
          rw [show c.toNat % 128 + 128 = c.toNat by omega]
          simp
/-- What a number that is read is made of. -/
theorem intF_back {l : List UInt8} {i : Int} (h : (intF l i).1 = 0) : 0 ≤ i ∧ i ≤ l.length ∧ i.toNat ≤ (intF l i).2.2 ∧ l.take (intF l i).2.2 = l.take i.toNat ++ vint (zig (intF l i).2.1) := by
  unfold intF at h ⊢
  split at h
  · simp at h
  · rename_i h1
    rw [if_neg h1]
    split at h
    · rename_i h2
      rw [if_pos h2]
      obtain ⟨q, h3, _, h5, _⟩ := decI_back _ _ _ h2
      dsimp only
      refine ⟨by omega, by omega, by omega, ?_⟩
      rw [h3, Nat.pow_zero, Nat.mul_one, Nat.zero_add, zig_unzig, ← h5, Nat.sub_zero]
      rw [List.take_add]
    · exact absurd h (by assumption)
/-! ### texts -/
theorem txtF_put (l r : List UInt8) (s : ByteArray) (m : Int) (hs : (s.size : Int) ≤ m) (hs2 : s.size ≤ 1000000) : txtF (l ++ (textB s ++ r)) l.length m = (0, s, l.length + (textB s).length) := by
  have hn : I64 (s.size : Int) := ⟨by omega, by omega⟩
  have h1 : intF (l ++ (textB s ++ r)) l.length = (0, (s.size : Int), l.length + (vint (zig s.size)).length) := by
    unfold textB
    rw [List.append_assoc]
    exact intF_put l _ _ hn
  have hl : (l ++ (textB s ++ r)).length = l.length + (vint (zig s.size)).length + s.size + r.length := by
    unfold textB
    simp only [List.length_append, size_list]
    omega
  unfold txtF
  rw [h1]
  dsimp only
  rw [if_pos rfl, if_neg (by omega), if_neg (by omega), if_neg (by rw [hl]; omega), Int.toNat_natCast]
  have hd : (l ++ (textB s ++ r)).drop (l.length + (vint (zig s.size)).length) = s.data.toList ++ r := by
    unfold textB
    rw [show l ++ (vint (zig s.size) ++ s.data.toList ++ r) = (l ++ vint (zig s.size)) ++ (s.data.toList ++ r) by simp only [List.append_assoc], List.drop_left' (by rw [List.length_append])]
  rw [hd, List.take_left' (size_list s)]
  unfold textB
  rw [List.length_append, size_list]
  congr 2
  omega
theorem txtF_back {l : List UInt8} {i m : Int} (h : (txtF l i m).1 = 0) : 0 ≤ i ∧ i ≤ l.length ∧ i.toNat ≤ (txtF l i m).2.2 ∧ (txtF l i m).2.2 ≤ l.length ∧ l.take (txtF l i m).2.2 = l.take i.toNat ++ textB (txtF l i m).2.1 := by
  unfold txtF at h ⊢
  split at h
  · rename_i h1
    rw [if_pos h1]
    split at h
    · simp at h
    · rename_i h2
      rw [if_neg h2]
      split at h
      · simp at h
      · rename_i h3
        rw [if_neg h3]
        split at h
        · simp at h
        · rename_i h4
          rw [if_neg h4]
          obtain ⟨b1, b2, b3, b4⟩ := intF_back h1
          have hend := intF_end h1
          dsimp only
          generalize hN : (intF l i).2.1.toNat = N
          have hNi : (intF l i).2.1 = (N : Int) := by omega
          rw [hNi] at b4 h4
          generalize (intF l i).2.2 = k at *
          have hlen : ((l.drop k).take N).length = N := by rw [List.length_take, List.length_drop]; omega
          refine ⟨b1, b2, by omega, by omega, ?_⟩
          unfold textB
          have hsz : (ByteArray.mk ((l.drop k).take N).toArray).size = N := by
            show (((l.drop k).take N).toArray).size = N
            rw [List.size_toArray, hlen]
          rw [hsz, List.take_add, b4, List.append_assoc]
  · exact absurd h (by assumption)
end Go.Proofs.YtclpemmpckjemaaDoor
