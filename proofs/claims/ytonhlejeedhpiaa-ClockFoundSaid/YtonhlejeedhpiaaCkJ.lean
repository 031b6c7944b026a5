/-
  Contract of the reference's question whether a reading may have been shown in the period of a stamp. Conditions: none.
-/
import Derived.Test.YtonhlejeedhpiaaCkH
import Derived.WalkKit
import Derived.WalkSpells
import Derived.WalkLawsBesides
import Derived.Deep.QuietTactic
import Derived.BigQuiet
import Derived.Handy
import Derived.Lib.Hide
namespace Go.Proofs.Ytonhlejeedhpiaa
open Go.RowKit

set_option maxRecDepth 100000 in
set_option maxHeartbeats 1600000 in
theorem rMay_any (v : Value) (A : List (Int × Int)) (k : Nat) (t r wall : Int) (w : World) (L : Nat) (hv : RdP w L w.heap.size v A) (hx : A[k]? = some (t, r)) :
    Calls Try.prog 38 #[v, .int .i64 k, .int .i64 wall] w fun e w' => e = .returned (.bool (mayB r (A[k + 1]?.map (·.2)) wall)) ∧ Below w.heap.size w w' := by
  have hv0 := hv
  obtain ⟨A', c, rfl, hl63, _⟩ := hv
  obtain ⟨ad, rfl, _, hab, c0, c1⟩ := hv0.at hx
  dsimp only at c0 c1
  have hk := (List.getElem?_eq_some_iff.1 hx).1
  have i2 : (0 : Int) ≤ (k : Int) := by omega
  have i3 : (k : Int) < (A.length : Int) := by omega
  have i8 : IntKind.i64.wrap ((k : Int) + 1) = (k : Int) + 1 := IntWalk.i64_in _ (by omega)
  by_cases hl : k + 1 = A.length
  · have hn : A[k + 1]? = none := List.getElem?_eq_none (by omega)
    rw [hn, Option.map_none]
    have he : ((k : Int) + 1 == (A.length : Int)) = true := by simp; omega
    have hm : mayB r none wall = decide (wall ≥ r) := rfl
    rw [hm]
    clear hx hn hl hm
    go_enter Try.func38, Try.ntmps38
    go_wp2
    go_ret
    exact ⟨rfl, Below.refl _ _⟩
  · have hy := List.getElem?_eq_getElem (show k + 1 < A.length by omega)
    generalize A[k + 1] = q at hy
    obtain ⟨t', r'⟩ := q
    obtain ⟨_, e1, _, _, d0, d1⟩ := hv0.at hy
    injection e1 with e1
    subst e1
    dsimp only at d0 d1
    rw [hy, Option.map_some]
    have he : ((k : Int) + 1 == (A.length : Int)) = false := by simp; omega
    have i5 : (k : Int) + 1 < (A.length : Int) := by omega
    have i4 : (0 : Int) ≤ (k : Int) + 1 := by omega
    have i6 : ((k : Int) + 1).toNat = k + 1 := by omega
    dsimp only
    generalize hM : mayB r (some r') wall = M
    rw [mayB_some] at hM
    clear hx hy hl
    by_cases h3 : r' ≥ r
    · by_cases h1 : wall ≥ r
      · by_cases h2 : wall ≤ r'
        · have k3 : decide (r' ≥ r) = true := decide_eq_true h3
          have k1 : decide (wall ≥ r) = true := decide_eq_true h1
          have k2 : decide (wall ≤ r') = true := decide_eq_true h2
          rw [decide_eq_true (by omega)] at hM
          subst hM
          go_enter Try.func38, Try.ntmps38
          go_wp2
          go_ret
          exact ⟨by simp [*], Below.refl _ _⟩
        · have k3 : decide (r' ≥ r) = true := decide_eq_true h3
          have k1 : decide (wall ≥ r) = true := decide_eq_true h1
          have k2 : decide (wall ≤ r') = false := decide_eq_false h2
          rw [decide_eq_false (by omega)] at hM
          subst hM
          go_enter Try.func38, Try.ntmps38
          go_wp2
          go_ret
          exact ⟨by simp [*], Below.refl _ _⟩
      · by_cases h2 : wall ≤ r'
        · have k3 : decide (r' ≥ r) = true := decide_eq_true h3
          have k1 : decide (wall ≥ r) = false := decide_eq_false h1
          have k2 : decide (wall ≤ r') = true := decide_eq_true h2
          rw [decide_eq_false (by omega)] at hM
          subst hM
          go_enter Try.func38, Try.ntmps38
          go_wp2
          go_ret
          exact ⟨by simp [*], Below.refl _ _⟩
        · exfalso; omega
    · by_cases h1 : wall ≥ r
      · by_cases h2 : wall ≤ r'
        · exfalso; omega
        · have k3 : decide (r' ≥ r) = false := decide_eq_false h3
          have k1 : decide (wall ≥ r) = true := decide_eq_true h1
          have k2 : decide (wall ≤ r') = false := decide_eq_false h2
          rw [decide_eq_true (by omega)] at hM
          subst hM
          go_enter Try.func38, Try.ntmps38
          go_wp2
          go_ret
          exact ⟨by simp [*], Below.refl _ _⟩
      · by_cases h2 : wall ≤ r'
        · have k3 : decide (r' ≥ r) = false := decide_eq_false h3
          have k1 : decide (wall ≥ r) = false := decide_eq_false h1
          have k2 : decide (wall ≤ r') = true := decide_eq_true h2
          rw [decide_eq_true (by omega)] at hM
          subst hM
          go_enter Try.func38, Try.ntmps38
          go_wp2
          go_ret
          exact ⟨by simp [*], Below.refl _ _⟩
        · have k3 : decide (r' ≥ r) = false := decide_eq_false h3
          have k1 : decide (wall ≥ r) = false := decide_eq_false h1
          have k2 : decide (wall ≤ r') = false := decide_eq_false h2
          rw [decide_eq_false (by omega)] at hM
          subst hM
          go_enter Try.func38, Try.ntmps38
          go_wp2
          go_ret
          exact ⟨by simp [*], Below.refl _ _⟩
end Go.Proofs.Ytonhlejeedhpiaa
