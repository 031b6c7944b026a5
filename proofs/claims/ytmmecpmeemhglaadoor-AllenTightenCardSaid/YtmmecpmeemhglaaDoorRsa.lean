/-
  Contract of the reference's Same for two readings of one list of constraints. Conditions: none.
-/
import Derived.Test.YtmmecpmeemhglaaDoorVal
import Derived.Test.YtmmecpmeemhglaaDoorInts
import Derived.Test.YtmmecpmeemhglaaDoorQui
import Derived.WalkKit
import Derived.WalkSpells
import Derived.WalkLawsBesides
import Derived.Deep.QuietTactic
import Derived.BigQuiet
import Derived.Handy
import Derived.Lib.Hide
namespace Go.Proofs.YtmmecpmeemhglaaDoor
open Go.RowKit

set_option maxRecDepth 100000 in
set_option maxHeartbeats 1600000 in
theorem rsame_eq (u v : Value) (l : List Con) (w : World) (L L' : Nat) (hu : RdC w L w.heap.size u l) (hv : RdC w L' w.heap.size v l) :
    Calls Tryd.prog 27 #[u, v] w fun e w' => e = .returned (.bool true) ∧ Below w.heap.size w w' := by
  have hu0 := Lib.hid hu
  have hv0 := Lib.hid hv
  obtain ⟨A, c, rfl, hl, _⟩ := hu
  obtain ⟨A2, c2, rfl, _, _⟩ := hv
  have hb : ((l.length : Int) != (l.length : Int)) = false := by simp
  go_enter Tryd.func27, Tryd.ntmps27
  go_wp2
  go_loopw [5] (fun i wr => ∃ k : Nat, k ≤ l.length ∧ i = .int .i64 k ∧ Below w.heap.size w wr) (fun i _ => l.length - (intOf i).toNat)
  case atStart => exact ⟨0, by omega, rfl, Below.refl _ _⟩
  case round =>
    obtain ⟨k, hk, rfl, hbr⟩ := hrel
    have hbz := hbr.size
    by_cases hlt : k < l.length
    · have hx := List.getElem?_eq_getElem hlt
      generalize l[k] = e at hx
      obtain ⟨x, y, r⟩ := e
      obtain ⟨ad, rv, e1, _, hab, a0, a1, a2, ar⟩ := (hu0.out.below hbr).at hx
      obtain ⟨ae, re, e2, _, hab2, b0, b1, b2, br⟩ := (hv0.out.below hbr).at hx
      subst e1 e2
      (try dsimp only at a0)
      (try dsimp only at a1)
      (try dsimp only at b0)
      (try dsimp only at b1)
      have f0 : ∀ p : After wr, p.w.cell? (ad.add (k * 3)) = some (.int .i64 x) := after_cell (by rw [add_block]; omega) a0
      have f1 : ∀ p : After wr, p.w.cell? ⟨(ad.add (k * 3)).block, (ad.add (k * 3)).off + 1, none⟩ = some (.int .i64 y) := after_cell (by show (ad.add (k * 3)).block < _; rw [add_block]; omega) a1
      have f2 : ∀ p : After wr, p.w.cell? ⟨(ad.add (k * 3)).block, (ad.add (k * 3)).off + 2, none⟩ = some rv := after_cell (by show (ad.add (k * 3)).block < _; rw [add_block]; omega) a2
      have g0 : ∀ p : After wr, p.w.cell? (ae.add (k * 3)) = some (.int .i64 x) := after_cell (by rw [add_block]; omega) b0
      have g1 : ∀ p : After wr, p.w.cell? ⟨(ae.add (k * 3)).block, (ae.add (k * 3)).off + 1, none⟩ = some (.int .i64 y) := after_cell (by show (ae.add (k * 3)).block < _; rw [add_block]; omega) b1
      have g2 : ∀ p : After wr, p.w.cell? ⟨(ae.add (k * 3)).block, (ae.add (k * 3)).off + 2, none⟩ = some re := after_cell (by show (ae.add (k * 3)).block < _; rw [add_block]; omega) b2
      have HI : ∀ p : After wr, Calls Tryd.prog 18 #[rv, re] p.w fun e w' => e = .returned (.bool true) ∧ Below p.w.heap.size p.w w' := fun p => by
        have h := ints_any rv re r r p.w L L' ((ar.below (p.h.mono hbz)).more (Nat.le_trans hbz p.h.size) (Nat.le_refl _)) ((br.below (p.h.mono hbz)).more (Nat.le_trans hbz p.h.size) (Nat.le_refl _))
        rw [decide_eq_true rfl] at h
        exact h
      have n1 : (x != x) = false := by simp
      have n2 : (y != y) = false := by simp
      have i1 : (k : Int) < (l.length : Int) := by omega
      clear a0 a1 a2 b0 b1 b2 ar br
      go_wp2
      (refine wp_region_after (by kernel_rfl) (by kernel_rfl) ?_; (repeat (go_big_quiet_step ((go_at_call 18; exact calls_after (HI _))))); refine wpQuiet_nil ?_; intro wq hw0; obtain ⟨⟨wq0, hbq⟩, hw1⟩ := hw0; subst hw1; (try dsimp only))
      go_wp2
      go_roundw
      case rel => exact ⟨k + 1, by omega, by go_num, hbr.trans (hbq.mono hbz)⟩
      case measure => simp [intOf]; omega
    · have hkl : k = l.length := by omega
      subst hkl
      go_wp2
      go_ret
      exact ⟨rfl, hbr⟩
end Go.Proofs.YtmmecpmeemhglaaDoor
