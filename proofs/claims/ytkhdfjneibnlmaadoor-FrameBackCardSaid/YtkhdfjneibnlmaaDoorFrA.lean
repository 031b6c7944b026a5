/-
  Bytes that are read, the reference's checksum and the program's: what each function answers, in every world. Conditions: lengths; the table lies as the rows say.
-/
import Derived.Test.YtkhdfjneibnlmaaDoorFrM
import Derived.Test.YtkhdfjneibnlmaaDoorProg
import Derived.WalkSmall
import Derived.WalkKit
import Derived.WalkSpells
import Derived.WalkLawsBesides
import Derived.Deep.QuietTactic
import Derived.BigQuiet
import Derived.Handy
import Derived.Lib.Hide
namespace Go.Proofs.YtkhdfjneibnlmaaDoor
open Go.RowKit

theorem add_block (ad : Addr) (k : Nat) : (ad.add k).block = ad.block := by unfold Addr.add; split <;> rfl
/-- The slice v holds the bytes l; it lies below block B and not below block L; its room is at least its length. -/
def RdB (w : World) (L B : Nat) (v : Value) (l : List UInt8) : Prop :=
  ∃ A c, v = .slice A l.length c ∧ l.length ≤ 9223372036854775807 ∧ l.length ≤ c ∧ ∀ (k : Nat) (b : UInt8), l[k]? = some b → ∃ ad : Addr, A = some ad ∧ L ≤ ad.block ∧ ad.block < B ∧ w.cell? (ad.add k) = some (.int .u8 (b.toNat : Nat))
theorem RdB.below {w w' : World} {L B : Nat} {v : Value} {l : List UInt8} (h : RdB w L B v l) (hb : Below B w w') : RdB w' L B v l := by
  obtain ⟨A, c, hv, hl, hcc, hc⟩ := h
  exact ⟨A, c, hv, hl, hcc, fun k n hk => let ⟨ad, h1, h0, h2, h3⟩ := hc k n hk; ⟨ad, h1, h0, h2, (hb.cell (p := ad.add k) (by rw [add_block]; exact h2)).trans h3⟩⟩
theorem RdB.more {w : World} {L L' B B' : Nat} {v : Value} {l : List UInt8} (h : RdB w L B v l) (hB : B ≤ B') (hL : L' ≤ L) : RdB w L' B' v l := by
  obtain ⟨A, c, hv, hl, hcc, hc⟩ := h
  exact ⟨A, c, hv, hl, hcc, fun k n hk => let ⟨ad, h1, h0, h2, h3⟩ := hc k n hk; ⟨ad, h1, by omega, by omega, h3⟩⟩
theorem RdB.step {w w' : World} {L B : Nat} {v : Value} {l : List UInt8} (h : RdB w L B v l) (hb : Below w.heap.size w w') (hB : B ≤ w.heap.size) : RdB w' L w'.heap.size v l :=
  (h.below (hb.mono hB)).more (Nat.le_trans hB hb.size) (Nat.le_refl _)
theorem RdB.at {w : World} {L B : Nat} {A : Option Addr} {m c : Nat} {l : List UInt8} (h : RdB w L B (.slice A m c) l) {k : Nat} {b : UInt8} (hk : l[k]? = some b) : ∃ ad : Addr, A = some ad ∧ L ≤ ad.block ∧ ad.block < B ∧ w.cell? (ad.add k) = some (.int .u8 (b.toNat : Nat)) := by
  obtain ⟨A', c', hv, hl, _, hc⟩ := h
  injection hv with e1 e2 e3
  subst e1
  exact hc k b hk
theorem bits_byte (r : Nat) (c : UInt8) (hr : r < 4294967296) : bits .xor .u32 (r : Int) (c.toNat : Int) = ((r ^^^ c.toNat : Nat) : Int) := u32_xor_nat r c.toNat hr (by have := c.toNat_lt; omega)
set_option maxHeartbeats 800000 in
theorem step_any (r : Nat) (c : UInt8) (hr : r < 4294967296) (w : World) : Calls Tryd.prog 25 #[.int .u32 r, .int .u8 (c.toNat : Nat)] w fun e w' => e = .returned (.int .u32 (byR r c : Nat)) ∧ w' = w := by
  have hx := bits_byte r c hr
  have hxl : r ^^^ c.toNat < 4294967296 := Nat.xor_lt_two_pow (n := 32) hr (by have := c.toNat_lt; omega)
  have hcl := c.toNat_lt
  unfold byR
  generalize r ^^^ c.toNat = x at *
  go_enter Tryd.func25, Tryd.ntmps25
  go_wp2
  go_loop [0, 5] (fun s i => ∃ k : Nat, k ≤ 8 ∧ i = .int .i64 k ∧ s = .int .u32 (bstN k x : Nat)) (fun _ i => 8 - (intOf i).toNat)
  case atStart => exact ⟨0, by omega, rfl, rfl⟩
  case round =>
    obtain ⟨k, hk, rfl, rfl⟩ := hrel
    have hbl := bstN_lt hxl k
    have hbx := fun a : Nat => fun (ha : a < 4294967296) => u32_xor_nat a 2197175160 ha (by decide)
    have hst : bstN (k + 1) x = bst (bstN k x) := rfl
    unfold bst at hst
    by_cases hlt : k < 8
    · generalize hm : bstN k x = m at *
      by_cases h1 : m % 2 = 1
      · rw [if_pos h1] at hst
        have h1i : (m : Int) % 2 = 1 := by omega
        have hxx := hbx (m / 2) (by omega)
        have HS := Lib.hid hst
        have HX := Lib.hid hxx
        clear hst hbx hm
        go_wp2
        go_round
        case rel => exact ⟨k + 1, by omega, by go_num, by rw [HS.out, ← HX.out]; rfl⟩
        case measure => simp [intOf]; omega
      · rw [if_neg h1] at hst
        have h1i : ((m : Int) % 2 == 1) = false := by rw [beq_eq_false_iff_ne]; omega
        have HS := Lib.hid hst
        clear hst hbx hm
        go_wp2
        go_round
        case rel => exact ⟨k + 1, by omega, by go_num, by rw [HS.out]; rfl⟩
        case measure => simp [intOf]; omega
    · have e : k = 8 := by omega
      subst e
      clear hst hbx
      go_wp2
      go_ret
      exact ⟨rfl, rfl⟩
end Go.Proofs.YtkhdfjneibnlmaaDoor
