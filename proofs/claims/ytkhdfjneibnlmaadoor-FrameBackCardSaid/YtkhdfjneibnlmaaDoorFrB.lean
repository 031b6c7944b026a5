/-
  Checksums of bytes: what the reference and the program answer, in every world. Conditions: the table lies as the rows say.
-/
import Derived.Test.YtkhdfjneibnlmaaDoorFrA
import Derived.WalkKit
import Derived.WalkSpells
import Derived.WalkLawsBesides
import Derived.Deep.QuietTactic
import Derived.BigQuiet
import Derived.Handy
import Derived.Lib.Hide
namespace Go.Proofs.YtkhdfjneibnlmaaDoor
open Go.RowKit

theorem take_one (l : List UInt8) (k : Nat) (h : k < l.length) : l.take (k + 1) = l.take k ++ [l[k]] := List.take_succ_eq_append_getElem h
theorem crc_step (r : Nat) (l : List UInt8) (k : Nat) (h : k < l.length) : crcU r (l.take (k + 1)) = byR (crcU r (l.take k)) l[k] := by rw [take_one l k h, crcU_snoc]
theorem crc_end (l : List UInt8) : bits .xor .u32 4294967295 (crcU 4294967295 l : Int) = (crc l : Int) := u32_xor_nat 4294967295 _ (by decide) (crcU_lt l _ (by decide))
set_option maxHeartbeats 800000 in
theorem rSum_any (v : Value) (l : List UInt8) (w : World) (L B : Nat) (hv : RdB w L B v l) :
    Calls Tryd.prog 10 #[v] w fun e w' => e = .returned (.int .u32 (crc l : Nat)) ∧ w' = w := by
  obtain ⟨A, c, rfl, hl, hcc, hc⟩ := hv
  have HC := Lib.hid hc
  have HE := Lib.hid (crc_end l)
  clear hc
  go_enter Tryd.func10, Tryd.ntmps10
  go_wp2
  go_loop [3, 8] (fun s i => ∃ k : Nat, k ≤ l.length ∧ i = .int .i64 k ∧ s = .int .u32 (crcU 4294967295 (l.take k) : Nat)) (fun _ i => l.length - (intOf i).toNat)
  case atStart => exact ⟨0, Nat.zero_le _, rfl, rfl⟩
  case round =>
    obtain ⟨k, hk, rfl, rfl⟩ := hrel
    by_cases hlt : k < l.length
    · obtain ⟨ad, rfl, _, _, h3⟩ := HC.out k _ (List.getElem?_eq_getElem hlt)
      have hS := fun W => step_any (crcU 4294967295 (l.take k)) l[k] (crcU_lt _ _ (by decide)) W
      have HS := Lib.hid (crc_step 4294967295 l k hlt)
      generalize crcU 4294967295 (l.take k) = x at *
      generalize l[k] = b at *
      generalize byR x b = y at *
      go_wp2_with fail
      refine (hS _).mono ?_
      rintro e w1 ⟨rfl, rfl⟩
      go_wp2
      go_round
      case rel => exact ⟨k + 1, by omega, by go_num, by rw [HS.out]⟩
      case measure => simp [intOf]; omega
    · have ht : l.take k = l := List.take_of_length_le (by omega)
      rw [ht]
      have hE := HE.out
      clear ht
      generalize crcU 4294967295 l = x at *
      go_wp2
      go_ret
      exact ⟨by first | rfl | (rw [hE]; rfl) | (rw [← hE]; rfl), rfl⟩
end Go.Proofs.YtkhdfjneibnlmaaDoor
