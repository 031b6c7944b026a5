/-
  Contract of the reference's Ints: two lists of numbers are identical. Conditions: none.
-/
import Derived.Test.YtmmecpmeemhglaaDoorList
import Derived.WalkKit
import Derived.WalkSpells
import Derived.WalkLawsBesides
import Derived.Deep.QuietTactic
import Derived.BigQuiet
import Derived.Handy
import Derived.Lib.Hide
namespace Go.Proofs.YtmmecpmeemhglaaDoor
open Go.RowKit

theorem list_ne_at {l m : List Int} {k : Nat} {x y : Int} (h1 : l[k]? = some x) (h2 : m[k]? = some y) (h : x ≠ y) : decide (l = m) = false := by
  rw [decide_eq_false_iff_not]
  rintro rfl
  exact h (Option.some.inj (h1.symm.trans h2))

set_option maxRecDepth 100000 in
set_option maxHeartbeats 800000 in
theorem ints_any (u v : Value) (l m : List Int) (w : World) (L L' : Nat) (hu : RdI w L w.heap.size u l) (hv : RdI w L' w.heap.size v m) :
    Calls Tryd.prog 18 #[u, v] w fun e w' => e = .returned (.bool (decide (l = m))) ∧ Below w.heap.size w w' := by
  have hu0 := hu
  have hv0 := hv
  obtain ⟨A, c, rfl, hl, _⟩ := hu
  obtain ⟨A2, c2, rfl, hl2, _⟩ := hv
  by_cases hlen : l.length = m.length
  · have hb : ((l.length : Int) != (m.length : Int)) = false := by simp [hlen]
    go_enter Tryd.func18, Tryd.ntmps18
    go_wp2
    go_loopw [5] (fun i wr => ∃ k : Nat, k ≤ l.length ∧ i = .int .i64 k ∧ l.take k = m.take k ∧ Below w.heap.size w wr) (fun i _ => l.length - (intOf i).toNat)
    case atStart => exact ⟨0, by omega, rfl, rfl, Below.refl _ _⟩
    case round =>
      obtain ⟨k, hk, rfl, htk, hbr⟩ := hrel
      by_cases hlt : k < l.length
      · have hlt2 : k < m.length := by omega
        have hx := List.getElem?_eq_getElem hlt
        have hy := List.getElem?_eq_getElem hlt2
        generalize l[k] = x at hx
        generalize m[k] = y at hy
        obtain ⟨ad, rfl, _, _, c1⟩ := (hu0.below hbr).at hx
        obtain ⟨ad2, rfl, _, _, d1⟩ := (hv0.below hbr).at hy
        have i1 : (k : Int) < (l.length : Int) := by omega
        have i2 : (k : Int) < (m.length : Int) := by omega
        by_cases hxy : x = y
        · subst hxy
          have hT : l.take (k + 1) = m.take (k + 1) := by
            obtain ⟨_, e1⟩ := List.getElem?_eq_some_iff.1 hx
            obtain ⟨_, e2⟩ := List.getElem?_eq_some_iff.1 hy
            rw [List.take_succ_eq_append_getElem hlt, List.take_succ_eq_append_getElem hlt2, htk, e1, e2]
          have hbn : (x != x) = false := by simp
          go_wp2
          go_quiet (fail)
          go_wp2
          go_roundw
          case rel => exact ⟨k + 1, by omega, by go_num, hT, below_drewN hbr _⟩
          case measure => simp [intOf]; omega
        · have hne := list_ne_at hx hy hxy
          have hbn : (x != y) = true := by simp [hxy]
          have HN := Lib.hid hne
          clear hne
          go_wp2
          go_quiet (fail)
          go_wp2
          go_ret
          exact ⟨congrArg (fun b => Ending.returned (.bool b)) HN.out.symm, below_drewN hbr _⟩
      · have hkl : k = l.length := by omega
        subst hkl
        have heq : decide (l = m) = true := by rw [decide_eq_true_iff]; rw [List.take_length, hlen, List.take_length] at htk; exact htk
        have HE := Lib.hid heq
        clear heq
        go_wp2
        go_ret
        exact ⟨congrArg (fun b => Ending.returned (.bool b)) HE.out.symm, hbr⟩
  · have hne : decide (l = m) = false := by rw [decide_eq_false_iff_not]; intro e; exact hlen (by rw [e])
    have hb : ((l.length : Int) != (m.length : Int)) = true := by simp; omega
    go_enter Tryd.func18, Tryd.ntmps18
    go_wp2
    go_ret
    exact ⟨congrArg (fun b => Ending.returned (.bool b)) hne.symm, Below.refl _ _⟩
end Go.Proofs.YtmmecpmeemhglaaDoor
