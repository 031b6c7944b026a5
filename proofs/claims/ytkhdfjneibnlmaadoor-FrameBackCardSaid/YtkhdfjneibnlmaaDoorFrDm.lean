/-
  Mathematics of damage: a frame one byte of which behind its first four is another one is not intact. Conditions: none.
-/
import Derived.Test.YtkhdfjneibnlmaaDoorFrEq
namespace Go.Proofs.YtkhdfjneibnlmaaDoor
open Go.RowKit

theorem xor_cancel {a b c : Nat} (h : a ^^^ c = b ^^^ c) : a = b := by
  have := congrArg (· ^^^ c) h
  simpa [Nat.xor_assoc, Nat.xor_self, Nat.xor_zero] using this
theorem byR_inj {r s : Nat} (hr : r < 4294967296) (hs : s < 4294967296) (c : UInt8) (h : byR r c = byR s c) : r = s := by
  have hc : c.toNat < 4294967296 := by have := c.toNat_lt; omega
  exact xor_cancel (bstN_inj (Nat.xor_lt_two_pow (n := 32) hr hc) (Nat.xor_lt_two_pow (n := 32) hs hc) 8 h)
theorem byR_inj2 {r : Nat} (hr : r < 4294967296) {c d : UInt8} (h : byR r c = byR r d) : c = d := by
  have hc : c.toNat < 4294967296 := by have := c.toNat_lt; omega
  have hd : d.toNat < 4294967296 := by have := d.toNat_lt; omega
  have := bstN_inj (Nat.xor_lt_two_pow (n := 32) hr hc) (Nat.xor_lt_two_pow (n := 32) hr hd) 8 h
  rw [Nat.xor_comm r, Nat.xor_comm r] at this
  exact UInt8.toNat_inj.1 (xor_cancel this)
theorem crcU_inj : ∀ (l : List UInt8) {r s : Nat}, r < 4294967296 → s < 4294967296 → crcU r l = crcU s l → r = s := by
  intro l
  induction l with
  | nil => intro r s _ _ h; exact h
  | cons c l ih => intro r s hr hs h; exact byR_inj hr hs c (ih (byR_lt hr c) (byR_lt hs c) h)
theorem crcU_set : ∀ (l : List UInt8) (i : Nat) (x : UInt8) (r : Nat) (hi : i < l.length), r < 4294967296 → x ≠ l[i] → crcU r (l.set i x) ≠ crcU r l := by
  intro l
  induction l with
  | nil => intro i x r hi; exact absurd hi (by simp)
  | cons c l ih =>
    intro i x r hi hr hx h
    cases i with
    | zero =>
      have h2 : crcU (byR r x) l = crcU (byR r c) l := h
      exact hx (byR_inj2 hr (crcU_inj l (byR_lt hr _) (byR_lt hr _) h2))
    | succ i => exact ih i x (byR r c) (by simpa using hi) (byR_lt hr c) (by simpa using hx) h
theorem crc_set (l : List UInt8) (i : Nat) (x : UInt8) (hi : i < l.length) (hx : x ≠ l[i]) : crc (l.set i x) ≠ crc l := by
  intro h
  unfold crc at h
  rw [Nat.xor_comm, Nat.xor_comm 4294967295] at h
  exact crcU_set l i x 4294967295 hi (by decide) hx (xor_cancel h)
theorem num4_be4 (n : Nat) (h : n < 4294967296) : num4 (UInt8.ofNat (n / 16777216)) (UInt8.ofNat (n / 65536)) (UInt8.ofNat (n / 256)) (UInt8.ofNat n) = n := be4_sum n h
theorem num4_inj {a b c d a' b' c' d' : UInt8} (h : num4 a b c d = num4 a' b' c' d') : a = a' ∧ b = b' ∧ c = c' ∧ d = d' := by
  have h1 := a.toNat_lt; have h2 := b.toNat_lt; have h3 := c.toNat_lt; have h4 := d.toNat_lt
  have h5 := a'.toNat_lt; have h6 := b'.toNat_lt; have h7 := c'.toNat_lt; have h8 := d'.toNat_lt
  unfold num4 at h
  refine ⟨UInt8.toNat_inj.1 (by omega), UInt8.toNat_inj.1 (by omega), UInt8.toNat_inj.1 (by omega), UInt8.toNat_inj.1 (by omega)⟩
theorem nextL_head (n : Nat) (hn : n ≤ 1048576) (c0 c1 c2 c3 : UInt8) (r : List UInt8) (P : Nat) (hr : r.length = n) (hc : crc (be4 n ++ r) ≠ num4 c0 c1 c2 c3) : nextL (be4 n ++ (c0 :: c1 :: c2 :: c3 :: r)) P = (4, [], 0) := by
  have h0 : nxE (UInt8.ofNat (n / 16777216)) (UInt8.ofNat (n / 65536)) (UInt8.ofNat (n / 256)) (UInt8.ofNat n) c0 c1 c2 c3 r = 4 := by
    unfold nxE
    rw [num4_be4 n (by omega), if_neg (by omega), if_neg (by omega), List.take_of_length_le (by omega)]
    exact if_neg hc
  show (if nxE (UInt8.ofNat (n / 16777216)) (UInt8.ofNat (n / 65536)) (UInt8.ofNat (n / 256)) (UInt8.ofNat n) c0 c1 c2 c3 r = 0 then _ else (nxE (UInt8.ofNat (n / 16777216)) (UInt8.ofNat (n / 65536)) (UInt8.ofNat (n / 256)) (UInt8.ofNat n) c0 c1 c2 c3 r, ([] : List UInt8), 0)) = _
  rw [h0, if_neg (by decide)]
theorem damage (m : List UInt8) (hm : m.length ≤ 1048576) (q : Nat) (x : UInt8) (hq : q < 4 + m.length) (hx : some x ≠ (be4 (crc (be4 m.length ++ m)) ++ m)[q]?) (P : Nat) :
    nextL (be4 m.length ++ ((be4 (crc (be4 m.length ++ m)) ++ m).set q x)) P = (4, [], 0) := by
  have hC := crc_lt (be4 m.length ++ m)
  generalize hK : crc (be4 m.length ++ m) = C at *
  have hn4 := num4_be4 C hC
  by_cases h4 : q < 4
  · have hq4 : q = 0 ∨ q = 1 ∨ q = 2 ∨ q = 3 := by omega
    unfold be4 at hx ⊢
    rcases hq4 with rfl | rfl | rfl | rfl
    · refine nextL_head m.length hm x _ _ _ m P rfl ?_
      intro h
      rw [hK, ← hn4] at h
      exact hx (by rw [(num4_inj h).1]; rfl)
    · refine nextL_head m.length hm _ x _ _ m P rfl ?_
      intro h
      rw [hK, ← hn4] at h
      exact hx (by rw [(num4_inj h).2.1]; rfl)
    · refine nextL_head m.length hm _ _ x _ m P rfl ?_
      intro h
      rw [hK, ← hn4] at h
      exact hx (by rw [(num4_inj h).2.2.1]; rfl)
    · refine nextL_head m.length hm _ _ _ x m P rfl ?_
      intro h
      rw [hK, ← hn4] at h
      exact hx (by rw [(num4_inj h).2.2.2]; rfl)
  · have hl4 : (be4 C).length = 4 := rfl
    rw [List.set_append_right _ _ (by omega)]
    refine nextL_head m.length hm _ _ _ _ (m.set (q - 4) x) P (List.length_set) ?_
    intro h
    rw [hn4, ← hK] at h
    have hi : q - 4 < m.length := by omega
    have hx2 : x ≠ m[q - 4] := by
      intro e
      apply hx
      rw [List.getElem?_append_right (by omega), hl4, e, List.getElem?_eq_getElem hi]
    have hs : be4 m.length ++ m.set (q - 4) x = (be4 m.length ++ m).set (4 + (q - 4)) x := by
      rw [List.set_append_right _ _ (by show 4 ≤ _; omega)]
      congr 2
      show _ = 4 + (q - 4) - 4
      omega
    rw [hs] at h
    refine crc_set (be4 m.length ++ m) (4 + (q - 4)) x (by rw [List.length_append]; show _ < 4 + _; omega) ?_ h
    intro e
    apply hx2
    rw [e, List.getElem_append_right (by show 4 ≤ _; omega)]
    congr 1
    show 4 + (q - 4) - 4 = _
    omega
end Go.Proofs.YtkhdfjneibnlmaaDoor
