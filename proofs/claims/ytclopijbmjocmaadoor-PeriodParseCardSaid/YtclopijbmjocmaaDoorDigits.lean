/-
  Contract of the statements' own digits: it reads the run of digits at an offset. Conditions: the offset lies within the string.
-/
import Derived.Test.YtclopijbmjocmaaDoorNum
import Derived.Test.YtclopijbmjocmaaDoorParsePure
import Derived.WalkKit
import Derived.WalkSpells
import Derived.WalkLawsBesides
import Derived.Deep.QuietTactic
import Derived.BigQuiet
import Derived.Handy
import Derived.Lib.Hide
namespace Go.Proofs.YtclopijbmjocmaaDoor
open Go.RowKit

theorem snoc_at (s : ByteArray) (i k : Nat) (h : i + k < s.size) : (s.data.toList.drop i).take (k + 1) = (s.data.toList.drop i).take k ++ [s[i + k]] := by
  have hl : k < (s.data.toList.drop i).length := by simp; omega
  rw [List.take_succ_eq_append_getElem hl, List.getElem_drop]; rfl
theorem head_drop (s : ByteArray) (i : Nat) (h : i < s.size) : (s.data.toList.drop i).head? = some s[i] := by
  rw [List.head?_eq_getElem?, List.getElem?_drop, List.getElem?_eq_getElem (by simpa using h)]; rfl
theorem len_take (s : ByteArray) (i k : Nat) (h : i + k ≤ s.size) : ((s.data.toList.drop i).take k).length = k := by
  rw [List.length_take, List.length_drop, ← Lib.size_eq]; omega
def StopAt (s : ByteArray) (i k : Nat) : Prop := i + k = s.size ∨ ∃ h : i + k < s.size, isDig s[i + k] = false
theorem run_stop {s : ByteArray} {i k : Nat} (_hk : i + k ≤ s.size) (hall : ((s.data.toList.drop i).take k).all isDig = true) (hs : StopAt s i k) : runD (s.data.toList.drop i) = (s.data.toList.drop i).take k := by
  have e : s.data.toList.drop i = (s.data.toList.drop i).take k ++ s.data.toList.drop (i + k) := by
    rw [← List.drop_drop]; exact (List.take_append_drop k _).symm
  conv => lhs; rw [e]
  refine run_app _ _ hall fun c hc => ?_
  rcases hs with hs | ⟨h, hd⟩
  · rw [hs, List.drop_of_length_le (by rw [← Lib.size_eq]; omega)] at hc; cases hc
  · rw [head_drop s _ h] at hc
    injection hc with hc
    rw [← hc]; exact hd
theorem fin_none {s : ByteArray} {i : Nat} (hi : i ≤ s.size) (hs : StopAt s i 0) : digN s.data.toList i = 0 ∧ digE s.data.toList i = -1 := by
  have hr := run_stop (k := 0) hi rfl hs
  have hb : badRun (s.data.toList.drop i) = true := by unfold badRun; rw [hr]; rfl
  unfold digN digE; rw [hb]; exact ⟨rfl, rfl⟩
theorem fin_bad {s : ByteArray} {i k : Nat} (hk : i + k ≤ s.size) (hall : ((s.data.toList.drop i).take k).all isDig = true) (hs : StopAt s i k) (h0 : i < s.size) (h48 : (s[i].toNat : Int) = 48) (h2 : 2 ≤ k) : digN s.data.toList i = 0 ∧ digE s.data.toList i = -1 := by
  have hr := run_stop hk hall hs
  have hb : badRun (s.data.toList.drop i) = true := by
    unfold badRun; rw [hr, head_drop s i h0, byte48 h48, len_take s i k hk]
    simp; omega
  unfold digN digE; rw [hb]; exact ⟨rfl, rfl⟩
theorem fin_ok {s : ByteArray} {i k : Nat} (hk : i + k ≤ s.size) (hall : ((s.data.toList.drop i).take k).all isDig = true) (hs : StopAt s i k) (h0 : i < s.size) (h1 : 1 ≤ k) (hq : ¬ (s[i].toNat : Int) = 48 ∨ k = 1) : digN s.data.toList i = numVal ((s.data.toList.drop i).take k) ∧ digE s.data.toList i = i + k := by
  have hr := run_stop hk hall hs
  have hl := len_take s i k hk
  have hb : badRun (s.data.toList.drop i) = false := by
    unfold badRun; rw [hr, head_drop s i h0, hl]
    have hne : ((s.data.toList.drop i).take k).isEmpty = false := by
      cases h : (s.data.toList.drop i).take k with
      | nil => rw [h] at hl; simp at hl; omega
      | cons => rfl
    rw [hne]
    rcases hq with hq | hq
    · have := byte48_not hq
      simp [this]
    · subst hq; simp
  unfold digN digE; rw [hb, hr, hl]; exact ⟨rfl, rfl⟩
theorem val_at {s : ByteArray} {i k : Nat} (h : i + k < s.size) (_hn : numVal ((s.data.toList.drop i).take k) < 1099511627776) : min 1099511627776 (10 * numVal ((s.data.toList.drop i).take k) + ((s[i + k].toNat : Int) - 48)) = numVal ((s.data.toList.drop i).take (k + 1)) := by
  rw [snoc_at s i k h, numVal_snoc]; exact Int.min_comm _ _
theorem val_full {s : ByteArray} {i k : Nat} (h : i + k < s.size) (hd : 48 ≤ (s[i + k].toNat : Int)) (hn : numVal ((s.data.toList.drop i).take k) = 1099511627776) : numVal ((s.data.toList.drop i).take k) = numVal ((s.data.toList.drop i).take (k + 1)) := by
  rw [snoc_at s i k h, numVal_snoc, hn]; omega
theorem all_at {s : ByteArray} {i k : Nat} (h : i + k < s.size) (ha : ((s.data.toList.drop i).take k).all isDig = true) (hd : isDig s[i + k] = true) : ((s.data.toList.drop i).take (k + 1)).all isDig = true := by
  rw [snoc_at s i k h, List.all_append, ha]; simp [hd]
theorem ret_two {a b c d : Int} (h1 : a = c) (h2 : b = d) : Ending.returned (.tuple #[.int .i64 a, .int .i64 b]) = Ending.returned (.tuple #[.int .i64 c, .int .i64 d]) := by rw [h1, h2]

set_option maxHeartbeats 1600000 in
theorem digits_any (s : ByteArray) (i : Nat) (w : World) (hi : i ≤ s.size) (hs : s.size ≤ 4294967295) :
    Calls Tryd.prog 38 #[.string s, .int .i64 i] w fun e w' => e = .returned (.tuple #[.int .i64 (digN s.data.toList i), .int .i64 (digE s.data.toList i)]) ∧ w = w' := by
  go_enter Tryd.func38, Tryd.ntmps38
  go_wp2
  go_loop [6, 7] (fun n j => ∃ k : Nat, i + k ≤ s.size ∧ j = .int .i64 ((i + k : Nat) : Int) ∧ n = .int .i64 (numVal ((s.data.toList.drop i).take k)) ∧ Hid (((s.data.toList.drop i).take k).all isDig = true)) (fun _ j => s.size - (intOf j).toNat)
  case atStart => exact ⟨0, hi, rfl, rfl, Lib.hid rfl⟩
  case round =>
    obtain ⟨k, hk, rfl, rfl, hd⟩ := hrel
    have hb := numVal_bd hd.out
    obtain ⟨hb1, hb2⟩ := hb
    by_cases hlt : i + k < s.size
    · by_cases hc1 : (s[i + k].toNat : Int) < 48
      · have HS : Hid (StopAt s i k) := Lib.hid (.inr ⟨hlt, dig_lo hc1⟩)
        by_cases hk0 : k = 0
        · have HR := Lib.hid (fin_none (s := s) (i := i) hi (by have h := HS.out; rw [hk0] at h; exact h))
          have hk0' : ((i : Int) + (k : Int) == (i : Int)) = true := by simp; omega
          clear hk0
          go_wp2
          go_ret2
          exact ⟨ret_two HR.out.1.symm HR.out.2.symm, rfl⟩
        · have h0 : i < s.size := by omega
          have hk0' : ((i : Int) + (k : Int) == (i : Int)) = false := by simp; omega
          by_cases h48 : (s[i].toNat : Int) = 48
          · by_cases hk2 : 2 ≤ k
            · have HR := Lib.hid (fin_bad hk hd.out HS.out h0 h48 hk2)
              have hk1 : 1 < (k : Int) := by omega
              go_wp2
              go_ret2
              exact ⟨ret_two HR.out.1.symm HR.out.2.symm, rfl⟩
            · have HR := Lib.hid (fin_ok hk hd.out HS.out h0 (by omega) (.inr (by omega)))
              have hk1 : (k : Int) ≤ 1 := by omega
              go_wp2
              go_ret2
              exact ⟨ret_two HR.out.1.symm (by rw [HR.out.2] <;> omega), rfl⟩
          · have HR := Lib.hid (fin_ok hk hd.out HS.out h0 (by omega) (.inl h48))
            go_wp2
            go_ret2
            exact ⟨ret_two HR.out.1.symm (by rw [HR.out.2] <;> omega), rfl⟩
      · by_cases hc2 : 57 < (s[i + k].toNat : Int)
        · have HS : Hid (StopAt s i k) := Lib.hid (.inr ⟨hlt, dig_hi hc2⟩)
          by_cases hk0 : k = 0
          · have HR := Lib.hid (fin_none (s := s) (i := i) hi (by have h := HS.out; rw [hk0] at h; exact h))
            have hk0' : ((i : Int) + (k : Int) == (i : Int)) = true := by simp; omega
            clear hk0
            go_wp2
            go_ret2
            exact ⟨ret_two HR.out.1.symm HR.out.2.symm, rfl⟩
          · have h0 : i < s.size := by omega
            have hk0' : ((i : Int) + (k : Int) == (i : Int)) = false := by simp; omega
            by_cases h48 : (s[i].toNat : Int) = 48
            · by_cases hk2 : 2 ≤ k
              · have HR := Lib.hid (fin_bad hk hd.out HS.out h0 h48 hk2)
                have hk1 : 1 < (k : Int) := by omega
                go_wp2
                go_ret2
                exact ⟨ret_two HR.out.1.symm HR.out.2.symm, rfl⟩
              · have HR := Lib.hid (fin_ok hk hd.out HS.out h0 (by omega) (.inr (by omega)))
                have hk1 : (k : Int) ≤ 1 := by omega
                go_wp2
                go_ret2
                exact ⟨ret_two HR.out.1.symm (by rw [HR.out.2] <;> omega), rfl⟩
            · have HR := Lib.hid (fin_ok hk hd.out HS.out h0 (by omega) (.inl h48))
              go_wp2
              go_ret2
              exact ⟨ret_two HR.out.1.symm (by rw [HR.out.2] <;> omega), rfl⟩
        · have hc1' : 48 ≤ (s[i + k].toNat : Int) := by omega
          have hc2' : (s[i + k].toNat : Int) ≤ 57 := by omega
          by_cases hF : numVal ((s.data.toList.drop i).take k) < 1099511627776
          · go_wp2
            go_round
            case rel => exact ⟨k + 1, by omega, by go_num, congrArg (Value.int .i64) (val_at hlt hF), Lib.hid (all_at hlt hd.out (dig_in (by omega) (by omega)))⟩
            case measure => simp [intOf]; omega
          · have HF := Lib.hid (val_full hlt hc1' (by omega))
            go_wp2
            go_round
            case rel => exact ⟨k + 1, by omega, by go_num, congrArg (Value.int .i64) HF.out, Lib.hid (all_at hlt hd.out (dig_in (by omega) (by omega)))⟩
            case measure => simp [intOf]; omega
    · have HS : Hid (StopAt s i k) := Lib.hid (.inl (by omega))
      by_cases hk0 : k = 0
      · have HR := Lib.hid (fin_none (s := s) (i := i) hi (by have h := HS.out; rw [hk0] at h; exact h))
        have hk0' : ((i : Int) + (k : Int) == (i : Int)) = true := by simp; omega
        clear hk0
        go_wp2
        go_ret2
        exact ⟨ret_two HR.out.1.symm HR.out.2.symm, rfl⟩
      · have h0 : i < s.size := by omega
        have hk0' : ((i : Int) + (k : Int) == (i : Int)) = false := by simp; omega
        by_cases h48 : (s[i].toNat : Int) = 48
        · by_cases hk2 : 2 ≤ k
          · have HR := Lib.hid (fin_bad hk hd.out HS.out h0 h48 hk2)
            have hk1 : 1 < (k : Int) := by omega
            go_wp2
            go_ret2
            exact ⟨ret_two HR.out.1.symm HR.out.2.symm, rfl⟩
          · have HR := Lib.hid (fin_ok hk hd.out HS.out h0 (by omega) (.inr (by omega)))
            have hk1 : (k : Int) ≤ 1 := by omega
            go_wp2
            go_ret2
            exact ⟨ret_two HR.out.1.symm (by rw [HR.out.2] <;> omega), rfl⟩
        · have HR := Lib.hid (fin_ok hk hd.out HS.out h0 (by omega) (.inl h48))
          go_wp2
          go_ret2
          exact ⟨ret_two HR.out.1.symm (by rw [HR.out.2] <;> omega), rfl⟩
end Go.Proofs.YtclopijbmjocmaaDoor
