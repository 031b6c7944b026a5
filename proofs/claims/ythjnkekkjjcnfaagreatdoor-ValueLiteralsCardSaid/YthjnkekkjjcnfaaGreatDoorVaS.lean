/-
  Values: the reference's numbers, quotes and what it takes out of quotes: what each function answers, in every world. Conditions: lengths.
-/
import Derived.Test.YthjnkekkjjcnfaaGreatDoorVaM
import Derived.WalkKit
import Derived.WalkSpells
import Derived.WalkLawsBesides
import Derived.Deep.QuietTactic
import Derived.BigQuiet
import Derived.Handy
import Derived.Lib.Hide
namespace Go.Proofs.YthjnkekkjjcnfaaGreatDoor
open Go.RowKit

set_option maxHeartbeats 400000 in
theorem rNum01_any (n : Nat) (w : World) (hn : n ≤ 1152921504606846976) :
    Calls Tryz.prog 72 #[.int .i64 n] w fun e w' => e = .returned (.string ⟨(Lib.itoa n).toArray⟩) ∧ w' = w := by
  go_enter Tryz.func72, Tryz.ntmps72
  go_wp2
  go_loop [0, 3] (fun m s => ∃ (k : Nat) (l : List UInt8), k ≤ n ∧ m = .int .i64 k ∧ s = .string ⟨l.toArray⟩ ∧ l.length + Lib.nDigits k ≤ 20 ∧ Hid (Lib.decDigits n = Lib.decDigits k ++ l)) (fun m _ => (intOf m).toNat)
  case atStart => exact ⟨n, [], Nat.le_refl _, rfl, rfl, by have := Lib.nDigits_le20 n (by omega); simpa using this, Lib.hid (by simp)⟩
  case round =>
    obtain ⟨k, l, hk, rfl, rfl, hl, hd⟩ := hrel
    have hdp := Lib.nDigits_pos k
    by_cases h9 : 9 < k
    · have hnd : Lib.nDigits (k / 10) < Lib.nDigits k := by rw [Lib.nDigits_big (u := k) (by omega)]; omega
      go_wp2
      go_round
      case rel => exact ⟨k / 10, UInt8.ofNat (48 + k % 10) :: l, by omega, by go_num, by rw [number_str _ _ (by omega)], by simp only [List.length_cons]; omega, Lib.hid (number_step h9 hd.out)⟩
      case measure => simp [intOf]; omega
    · go_wp2
      go_ret
      exact ⟨ret_str (by rw [number_str k l (by omega), itoa_nat, hd.out, dec_last k (by omega)]; rfl), rfl⟩
theorem rNum01_at (n : Nat) (a : Int) (ha : a = n) (w : World) (hn : n ≤ 1152921504606846976) :
    Calls Tryz.prog 72 #[.int .i64 a] w fun e w' => e = .returned (.string ⟨(Lib.decDigits n).toArray⟩) ∧ w' = w := by
  subst ha
  have := rNum01_any n w hn
  rw [itoa_nat] at this
  exact this
theorem dig_len (n : Nat) (h : n ≤ 1152921504606846976) : (Lib.decDigits n).length ≤ 21 := by
  have := Lib.itoa_length_le (n : Int) (by omega) (by omega)
  rw [itoa_nat] at this
  exact this
theorem cat_neg (l : List UInt8) : (ByteArray.mk #[45] ++ ByteArray.mk l.toArray) = ByteArray.mk (45 :: l).toArray := by
  rw [show (#[45] : Array UInt8) = [45].toArray from rfl, ByteArray.mk_append_mk]; rfl
set_option maxHeartbeats 800000 in
theorem rNumber_any (n : Int) (w : World) (h0 : -1125899906842624 ≤ n) (h1 : n ≤ 1125899906842624) :
    Calls Tryz.prog 59 #[.int .i64 n] w fun e w' => e = .returned (.string ⟨(Lib.itoa n).toArray⟩) ∧ w' = w := by
  unfold Lib.itoa
  by_cases hn : n < 0
  · rw [if_pos hn]
    obtain ⟨m, rfl⟩ : ∃ m : Nat, n = -(m : Int) := ⟨n.natAbs, by omega⟩
    rw [show (-(m : Int)).natAbs = m by omega]
    by_cases h9 : m < 10
    · have hm : -(m : Int) > -10 := by omega
      have l1 := dig_len m (by omega)
      go_enter Tryz.func59, Tryz.ntmps59
      go_wp2_with fail
      refine (rNum01_at m _ (by omega) _ (by omega)).mono ?_
      rintro e w1 ⟨rfl, rfl⟩
      go_wp2
      go_ret
      exact ⟨ret_str (cat_neg _), rfl⟩
    · have hm : ¬ -(m : Int) > -10 := by omega
      have l1 := dig_len (m / 10) (by omega)
      have l2 := dig_len (m % 10) (by omega)
      have hl : (ByteArray.mk #[45] ++ ByteArray.mk (Lib.decDigits (m / 10)).toArray).size ≤ 22 := by
        rw [cat_neg, size_toArray]; simp only [List.length_cons]; omega
      go_enter Tryz.func59, Tryz.ntmps59
      go_wp2_with fail
      refine (rNum01_at (m / 10) ((m : Int) / 10) (by omega) _ (by omega)).mono ?_
      rintro e w1 ⟨rfl, rfl⟩
      go_wp2_with fail
      refine (rNum01_at (m % 10) ((m : Int) % 10) (by omega) _ (by omega)).mono ?_
      rintro e w1 ⟨rfl, rfl⟩
      go_wp2
      go_ret
      exact ⟨ret_str (by rw [cat_neg, ByteArray.mk_append_mk, dec_small (m % 10) (by omega), dec_big m (by omega)]; rfl), rfl⟩
  · rw [if_neg hn]
    obtain ⟨m, rfl⟩ : ∃ m : Nat, n = (m : Int) := ⟨n.toNat, by omega⟩
    rw [show ((m : Int)).toNat = m by omega]
    go_enter Tryz.func59, Tryz.ntmps59
    go_wp2_with (go_at_call 72; refine (rNum01_at m _ (by omega) _ (by omega)).mono ?_; rintro e w1 ⟨rfl, rfl⟩)
    go_ret
    exact ⟨rfl, rfl⟩
end Go.Proofs.YthjnkekkjjcnfaaGreatDoor
