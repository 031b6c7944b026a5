/-
  large and appended of the statements: what they answer. Conditions: lengths; the table lies as the rows say.
-/
import Derived.Test.YtkhdfjneibnlmaaDoorFrZ
import Derived.Test.YtkhdfjneibnlmaaDoorFrT
import Derived.Laws.AppendOwn
import Derived.Outline
import Derived.WalkKit
import Derived.WalkSpells
import Derived.WalkLawsBesides
import Derived.Deep.QuietTactic
import Derived.BigQuiet
import Derived.Handy
import Derived.Lib.Hide
namespace Go.Proofs.YtkhdfjneibnlmaaDoor
open Go.RowKit

/-- How much lists of bodies hold, as large reckons it. -/
def totB (ms : List (List UInt8)) : Nat := ms.length + (ms.map List.length).sum
def totK (ms : List (List UInt8)) (k : Nat) : Nat := ms.length + ((ms.take k).map List.length).sum
theorem totK_succ (ms : List (List UInt8)) (k : Nat) (h : k < ms.length) : totK ms (k + 1) = totK ms k + ms[k].length := by
  unfold totK
  rw [List.take_succ_eq_append_getElem h, List.map_append, List.sum_append]
  simp
  omega
theorem totK_all (ms : List (List UInt8)) : totK ms ms.length = totB ms := by unfold totK totB; rw [List.take_of_length_le (Nat.le_refl _)]
theorem totK_le (ms : List (List UInt8)) (k : Nat) : totK ms k ≤ totB ms := by
  unfold totK totB
  have : (ms.map List.length).sum = ((ms.take k).map List.length).sum + ((ms.drop k).map List.length).sum := by
    rw [← List.sum_append, ← List.map_append, List.take_append_drop]
  omega
theorem tot_elem (ms : List (List UInt8)) (k : Nat) (h : k < ms.length) : ms[k].length ≤ totB ms := by
  have := totK_succ ms k h
  have := totK_le ms (k + 1)
  omega
set_option maxRecDepth 100000 in
set_option maxHeartbeats 1600000 in
theorem large_any (v : Value) (ms : List (List UInt8)) (w : World) (L B : Nat) (hv : RdS w L B v ms) (hl : ms.length ≤ 1099511627776000) (hm : ∀ m ∈ ms, m.length ≤ 1099511627776000) :
    Calls Tryd.prog 22 #[v] w fun e w' => e = .returned (.bool (decide (totB ms > 20000))) ∧ w' = w := by
  obtain ⟨A, c, rfl, hl63, hc⟩ := hv
  have HC := Lib.hid hc
  clear hc
  go_enter Tryd.func22, Tryd.ntmps22
  go_wp2
  go_loopw [3, 10] (fun n i wr => ∃ k : Nat, k ≤ ms.length ∧ i = .int .i64 k ∧ n = .int .i64 (totK ms k : Nat) ∧ totK ms k ≤ 1099511627776000 ∧ (0 < k → totK ms k ≤ 20000) ∧ wr = w) (fun _ i _ => ms.length - (intOf i).toNat)
  case atStart => exact ⟨0, Nat.zero_le _, rfl, by simp [totK], by simp [totK]; omega, by omega, rfl⟩
  case round =>
    obtain ⟨k, hk, rfl, rfl, h1, h2, rfl⟩ := hrel
    by_cases hlt : k < ms.length
    · have hki : (k : Int) < ms.length := by omega
      have hsu := totK_succ ms k hlt
      have hmk := hm _ (List.getElem_mem hlt)
      obtain ⟨ad, u, rfl, c1, r1⟩ := HC.out k _ (List.getElem?_eq_getElem hlt)
      obtain ⟨A2, c2, rfl, _⟩ := r1
      have hle := totK_le ms (k + 1)
      generalize ms[k] = q at *
      generalize hT : totK ms (k + 1) = T at *
      have HT := Lib.hid hT
      generalize totK ms k = S at *
      by_cases hbig : T > 20000
      · have hbi : (S : Int) + q.length > 20000 := by omega
        have HD := Lib.hid (show decide (totB ms > 20000) = true from decide_eq_true (by omega))
        clear hsu hT hle
        go_wp2
        go_ret
        exact ⟨by rw [HD.out]; rfl, rfl⟩
      · have hbi : ¬ (S : Int) + q.length > 20000 := by omega
        have HSU := Lib.hid hsu
        clear hsu hT hle
        go_wp2
        go_round
        case rel => exact ⟨k + 1, by omega, by go_num, by rw [HT.out, HSU.out, Int.natCast_add], by rw [HT.out]; omega, fun _ => by rw [HT.out]; omega, by first | rfl | trivial⟩
        case measure => simp [intOf]; omega
    · have hki : ¬ (k : Int) < ms.length := by omega
      have hkk : k = ms.length := by omega
      subst hkk
      rw [totK_all] at h1 h2 ⊢
      generalize hT : totB ms = T at *
      have HT := Lib.hid hT
      clear hT
      go_wp2
      go_ret
      exact ⟨by rw [HT.out]; exact congrArg (fun b => Ending.returned (Value.bool b)) (decide_eq_decide.2 (by omega)), rfl⟩
end Go.Proofs.YtkhdfjneibnlmaaDoor
