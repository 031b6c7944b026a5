/-
  Contract of network.hasEmpty. Conditions: at most eight periods.
-/
import Derived.Test.YtmmecpmeemhglaaDoorPerm
import Derived.WalkKit
import Derived.WalkSpells
import Derived.WalkLawsBesides
import Derived.Deep.QuietTactic
import Derived.BigQuiet
import Derived.Handy
import Derived.Lib.Hide
namespace Go.Proofs.YtmmecpmeemhglaaDoor
open Go.RowKit

def hE (n : Nat) (M : Net) : Bool := (List.range n).any fun i => (List.range n).any fun j => M i j == 0
theorem hE_iff (n : Nat) (M : Net) : hE n M = true ↔ ∃ i, i < n ∧ ∃ j, j < n ∧ M i j = 0 := by
  unfold hE; simp [List.any_eq_true]
theorem hE_no (n : Nat) (M : Net) (h : ∀ i, i < n → ∀ j, j < n → M i j ≠ 0) : hE n M = false := by
  cases hh : hE n M
  · rfl
  · obtain ⟨i, hi, j, hj, h0⟩ := (hE_iff n M).1 hh
    exact absurd h0 (h i hi j hj)

set_option maxRecDepth 100000 in
set_option maxHeartbeats 1600000 in
theorem emp_any (n : Nat) (M : Net) (w : World) (hn : n ≤ 8) :
    Calls Tryd.prog 39 #[.agg (netA n M)] w fun e w' => e = .returned (.bool (hE n M)) ∧ Below w.heap.size w w' := by
  have hN0 := netA_n n M
  have HN : Own (w.alloc (.cells (netA n M) 66)) w.heap.size 66 (netA n M) := Own.new _ _ _
  have HB : Below w.heap.size w (w.alloc (.cells (netA n M) 66)) := (by (repeat' (first | (with_reducible exact Below.refl _ _) | (with_reducible assumption) | (with_reducible refine Below.alloc ?_ ?_ _) | (with_reducible refine Below.drew ?_) | (with_reducible refine Below.setCell ?_ ?_ _) | (with_reducible refine Below.trans ?_ (Below.mono (by assumption) ?_)) | go_size)))
  go_enter Tryd.func39, Tryd.ntmps39
  go_wp2
  generalize w.alloc (.cells (netA n M) 66) = W at *
  have k0 : W.cell? ⟨w.heap.size, 0, none⟩ = some (.int .i64 (n : Nat)) := (HN.cell 0).trans hN0
  go_loopw [7] (fun v wr => ∃ i : Nat, i ≤ n ∧ v = .int .i64 i ∧ (∀ x, x < i → ∀ y, y < n → M x y ≠ 0) ∧ W = wr) (fun v _ => n - (intOf v).toNat)
  case atStart => exact ⟨0, by omega, rfl, fun x hx => absurd hx (by omega), rfl⟩
  case round =>
    obtain ⟨i, hi, rfl, hne, rfl⟩ := hrel
    by_cases hlt : i < n
    · go_wp2
      go_loopw [12] (fun v wr => ∃ j : Nat, j ≤ n ∧ v = .int .i64 j ∧ (∀ y, y < j → M i y ≠ 0) ∧ W = wr) (fun v _ => n - (intOf v).toNat)
      case atStart => exact ⟨0, by omega, rfl, fun x hx => absurd hx (by omega), rfl⟩
      case round =>
        obtain ⟨j, hj, rfl, hnj, rfl⟩ := hrel
        by_cases hjt : j < n
        · have a8 : i < 8 := by omega
          have b8 : j < 8 := by omega
          have k1 := (HN.cell (1 + i * 8 + j)).trans (netA_get n M i j a8 b8)
          by_cases h0 : M i j = 0
          · rw [h0] at k1
            have hE := Lib.hid ((hE_iff n M).2 ⟨i, hlt, j, hjt, h0⟩)
            go_wp2
            go_ret
            exact ⟨congrArg (fun b => Ending.returned (.bool b)) hE.out.symm, HB⟩
          · have h1 : ((M i j : Int) == 0) = false := by simp; exact h0
            generalize hm : M i j = m at *
            go_wp2
            go_roundw
            case rel => exact ⟨j + 1, by omega, by go_num, fun y hy => if h : y = j then by subst h; rw [hm]; exact h0 else hnj y (by omega), by first | trivial | rfl⟩
            case measure => simp [intOf]; omega
        · have hjn : j = n := by omega
          subst hjn
          go_wp2
          go_roundw
          case rel => exact ⟨i + 1, by omega, by go_num, fun x hx y hy => if h : x = i then by subst h; exact hnj y hy else hne x (by omega) y hy, by first | trivial | rfl⟩
          case measure => simp [intOf]; omega
    · have hin : i = n := by omega
      subst hin
      have hE := Lib.hid (hE_no i M hne)
      go_wp2
      go_ret
      exact ⟨congrArg (fun b => Ending.returned (.bool b)) hE.out.symm, HB⟩
end Go.Proofs.YtmmecpmeemhglaaDoor
