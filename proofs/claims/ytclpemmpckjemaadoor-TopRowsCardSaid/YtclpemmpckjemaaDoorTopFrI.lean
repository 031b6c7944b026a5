/-
  The program's Next at any bytes and any offset. Conditions: lengths; the table lies as the rows say.
-/
import Derived.Test.YtclpemmpckjemaaDoorTopFrH
import Derived.WalkKit
import Derived.WalkSpells
import Derived.WalkLawsBesides
import Derived.Deep.QuietTactic
import Derived.BigQuiet
import Derived.Handy
import Derived.Lib.Hide
namespace Go.Proofs.YtclpemmpckjemaaDoor.Fr
open Go.RowKit

set_option maxHeartbeats 800000 in
theorem pNext_range (v : Value) (l : List UInt8) (i : Int) (w : World) (L B : Nat) (hv : RdB w L B v l) (hi : i < 0 ∨ i > l.length) :
    Calls Tryd.prog 10 #[v, .int .i64 i] w fun e w' => e = .returned (.tuple #[.slice none 0 0, .int .i64 0, .int .i64 6]) ∧ w' = w := by
  obtain ⟨A, c, rfl, _⟩ := hv
  by_cases h : i < 0
  · go_enter Tryd.func10, Tryd.ntmps10
    go_wp2
    go_ret3
    exact ⟨rfl, rfl⟩
  · have h2 : i > l.length := by omega
    clear hi
    go_enter Tryd.func10, Tryd.ntmps10
    go_wp2
    go_ret3
    exact ⟨rfl, rfl⟩
set_option maxHeartbeats 800000 in
theorem pNext_short (v : Value) (l : List UInt8) (i : Int) (w : World) (L B : Nat) (hv : RdB w L B v l) (h1 : ¬ i < 0) (h2 : ¬ i > l.length) (h3 : (l.length : Int) - i < 8) :
    Calls Tryd.prog 10 #[v, .int .i64 i] w fun e w' => e = .returned (.tuple #[.slice none 0 0, .int .i64 0, .int .i64 2]) ∧ w' = w := by
  obtain ⟨A, c, rfl, _⟩ := hv
  go_enter Tryd.func10, Tryd.ntmps10
  go_wp2
  go_ret3
  exact ⟨rfl, rfl⟩
theorem eight (l : List UInt8) (h : 8 ≤ l.length) : ∃ b0 b1 b2 b3 c0 c1 c2 c3 r, l = b0 :: b1 :: b2 :: b3 :: c0 :: c1 :: c2 :: c3 :: r := by
  match l, h with
  | b0 :: b1 :: b2 :: b3 :: c0 :: c1 :: c2 :: c3 :: r, _ => exact ⟨b0, b1, b2, b3, c0, c1, c2, c3, r, rfl⟩
theorem nextL_short (l : List UInt8) (P : Nat) (h : l.length < 8) : nextL l P = (2, [], 0) := by
  unfold nextL
  split
  · simp at h; omega
  · rfl
theorem pNext_any (v : Value) (l : List UInt8) (i : Int) (w : World) (L : Nat) (henv : Env w) (hv : RdB w L w.heap.size v l) :
    Calls Tryd.prog 10 #[v, .int .i64 i] w (RetX w (nextF l i)) := by
  unfold nextF
  by_cases h : i < 0 ∨ i > l.length
  · rw [if_pos h]
    refine (pNext_range v l i w L w.heap.size hv h).mono ?_
    rintro e w' ⟨rfl, rfl⟩
    exact retX_err (k := 6) rfl (Below.refl _ _)
  · rw [if_neg h]
    by_cases h3 : (l.length : Int) - i < 8
    · rw [nextL_short _ _ (by rw [List.length_drop]; omega)]
      refine (pNext_short v l i w L w.heap.size hv (by omega) (by omega) h3).mono ?_
      rintro e w' ⟨rfl, rfl⟩
      exact retX_err (k := 2) rfl (Below.refl _ _)
    · obtain ⟨P, rfl⟩ := Int.eq_ofNat_of_zero_le (show 0 ≤ i by omega)
      rw [Int.toNat_natCast]
      obtain ⟨b0, b1, b2, b3, c0, c1, c2, c3, r, hr⟩ := eight (l.drop P) (by rw [List.length_drop]; omega)
      rw [hr]
      have hl : l = l.take P ++ ([b0, b1, b2, b3] ++ ([c0, c1, c2, c3] ++ r)) := by
        have := (List.take_append_drop P l).symm
        rw [hr] at this
        exact this
      have hP : (l.take P).length = P := by rw [List.length_take]; omega
      generalize l.take P = p at *
      subst hP
      have hll : l.length = p.length + 8 + r.length := by rw [hl]; simp; omega
      rw [hl] at hv
      have hv2 := hv
      obtain ⟨A, c, rfl, _, hc, _⟩ := hv2
      rw [← hl] at hc
      by_cases hcc : p.length + 8 < c
      · exact pNext_T _ p r b0 b1 b2 b3 c0 c1 c2 c3 w L henv hv ⟨_, _, _, rfl, hcc⟩
      · exact pNext_E _ p r b0 b1 b2 b3 c0 c1 c2 c3 w L henv hv ⟨_, _, _, rfl, by omega⟩
end Go.Proofs.YtclpemmpckjemaaDoor.Fr
