/-
  Contract of listSmall: the fifteen periods with bounds from 0 to 5. Conditions: none.
-/
import Derived.Test.YtmmecpmeemhglaaDoorAl1
import Derived.Laws.CopyOwn
import Derived.WalkKit
import Derived.WalkSpells
import Derived.WalkLawsBesides
import Derived.Deep.QuietTactic
import Derived.BigQuiet
import Derived.Handy
import Derived.Lib.Hide
namespace Go.Proofs.YtmmecpmeemhglaaDoor
open Go.RowKit

/-- The bounds of the fifteen periods, one behind the other; the row in which the first n of them are laid. -/
def smL : List Int := [0, 1, 0, 2, 1, 2, 0, 3, 1, 3, 2, 3, 0, 4, 1, 4, 2, 4, 3, 4, 0, 5, 1, 5, 2, 5, 3, 5, 4, 5]
def smN (n : Nat) : List Int := smL.take (n * 2) ++ List.replicate (30 - n * 2) 0
def smA (n : Nat) : Array Value := ((smN n).map fun z => Value.int .i64 z).toArray
/-- How many periods end before t. -/
def tri (t : Nat) : Nat := t * (t - 1) / 2
theorem tri_step (t : Nat) (h : t < 7) : tri (t + 1) = tri t + t := (by decide : ∀ t : Fin 7, tri (t.val + 1) = tri t.val + t.val) ⟨t, h⟩
theorem tri_lt (t f : Nat) (h : t < 6) (h' : f < t) : tri t + f < 15 := (by decide : ∀ t : Fin 6, ∀ f : Fin 6, f.val < t.val → tri t.val + f.val < 15) ⟨t, h⟩ ⟨f, by omega⟩ h'
theorem smN_get (n : Nat) (h : n < 15) : (∃ z, (smN n)[n * 2]? = some z) ∧ ∃ z, (smN n)[n * 2 + 1]? = some z :=
  (by decide : ∀ n : Fin 15, (∃ z ∈ [(0 : Int)], (smN n.val)[n.val * 2]? = some z) ∧ ∃ z ∈ [(0 : Int)], (smN n.val)[n.val * 2 + 1]? = some z) ⟨n, h⟩ |>.imp (fun ⟨z, _, h⟩ => ⟨z, h⟩) (fun ⟨z, _, h⟩ => ⟨z, h⟩)
theorem smN_set (t f : Nat) (h : t < 6) (h' : f < t) : ((smN (tri t + f)).set ((tri t + f) * 2) (f : Int)).set ((tri t + f) * 2 + 1) (t : Int) = smN (tri t + f + 1) :=
  (by decide : ∀ t : Fin 6, ∀ f : Fin 6, f.val < t.val → ((smN (tri t.val + f.val)).set ((tri t.val + f.val) * 2) (f.val : Int)).set ((tri t.val + f.val) * 2 + 1) (t.val : Int) = smN (tri t.val + f.val + 1)) ⟨t, h⟩ ⟨f, by omega⟩ h'
theorem smA_set (t f : Nat) (h : t < 6) (h' : f < t) : ((smA (tri t + f)).setIfInBounds ((tri t + f) * 2) (.int .i64 (f : Int))).setIfInBounds ((tri t + f) * 2 + 1) (.int .i64 (t : Int)) = smA (tri t + f + 1) := by
  rw [← show _ = smA (tri t + f + 1) from congrArg (fun l : List Int => (l.map fun z => Value.int .i64 z).toArray) (smN_set t f h h')]
  unfold smA
  simp
theorem smA_get (n : Nat) (h : n < 15) : (∃ v, (smA n)[n * 2]? = some v) ∧ ∃ v, (smA n)[n * 2 + 1]? = some v := by
  obtain ⟨⟨y, hy⟩, z, hz⟩ := smN_get n h
  unfold smA
  exact ⟨⟨_, by rw [List.getElem?_toArray, List.getElem?_map, hy]; rfl⟩, ⟨_, by rw [List.getElem?_toArray, List.getElem?_map, hz]; rfl⟩⟩
theorem smA_none : smA 0 = #[.int .i64 0, .int .i64 0, .int .i64 0, .int .i64 0, .int .i64 0, .int .i64 0, .int .i64 0, .int .i64 0, .int .i64 0, .int .i64 0, .int .i64 0, .int .i64 0, .int .i64 0, .int .i64 0, .int .i64 0, .int .i64 0, .int .i64 0, .int .i64 0, .int .i64 0, .int .i64 0, .int .i64 0, .int .i64 0, .int .i64 0, .int .i64 0, .int .i64 0, .int .i64 0, .int .i64 0, .int .i64 0, .int .i64 0, .int .i64 0] := by kernel_rfl

theorem smInfo : (Tryd.prog.info? 89).map (·.size) = some (smA 15).size := by kernel_rfl
theorem smOne : (smA 15).all (·.oneCell') = true := by kernel_rfl

set_option maxRecDepth 100000 in
set_option maxHeartbeats 1600000 in
theorem small_any (w : World) :
    Calls Tryd.prog 61 #[] w fun e w' => e = .returned (.agg (smA 15)) ∧ Below w.heap.size w w' := by
  go_enter Tryd.func61, Tryd.ntmps61
  go_wp2
  rw [← smA_none]
  go_loopw [2, 5] (fun n i wr => ∃ t : Nat, t ≤ 6 ∧ i = .int .i64 t ∧ n = .int .i64 (tri t : Nat) ∧ wr = (w.alloc (.cells (smA 0) 89)).alloc (.cells (smA (tri t)) 89)) (fun _ i _ => 6 - (intOf i).toNat)
  case atStart => exact ⟨0, by omega, rfl, rfl, rfl⟩
  case round =>
    obtain ⟨t, ht, rfl, rfl, rfl⟩ := hrel
    by_cases hlt : t < 6
    · go_wp2
      go_loopw [2, 9] (fun n i wr => ∃ f : Nat, f ≤ t ∧ i = .int .i64 f ∧ n = .int .i64 (tri t + f : Nat) ∧ wr = (w.alloc (.cells (smA 0) 89)).alloc (.cells (smA (tri t + f)) 89)) (fun _ i _ => t - (intOf i).toNat)
      case atStart => exact ⟨0, by omega, rfl, rfl, rfl⟩
      case round =>
        obtain ⟨f, hf, rfl, rfl, rfl⟩ := hrel
        by_cases hft : f < t
        · have hn := tri_lt t f hlt hft
          obtain ⟨⟨y, hy⟩, z, hz⟩ := smA_get (tri t + f) hn
          have HA := Lib.hid (smA_set t f hlt hft)
          go_wp2
          go_roundw
          case rel => exact ⟨f + 1, by omega, by go_num, by go_num, by rw [HA.out]; rfl⟩
          case measure => simp [intOf]; omega
        · have hT := Lib.hid (tri_step t (by omega))
          have hft' : f = t := by omega
          subst hft'
          go_wp2
          go_roundw
          case rel => exact ⟨f + 1, by omega, by go_num, by rw [hT.out], by rw [hT.out]⟩
          case measure => simp [intOf]; omega
    · have ht6 : t = 6 := by omega
      subst ht6
      rw [show tri 6 = 15 from rfl]
      have hg1 := heap_alloc_new (w.alloc (.cells (smA 0) 89)) (.cells (smA 15) 89)
      have hg0 : ((w.alloc (.cells (smA 0) 89)).alloc (.cells (smA 15) 89)).heap[w.heap.size]? = some (.cells (smA 0) 89 (0, 0)) := (Below.heap_alloc _ _ _ (by simp)).trans (heap_alloc_new w _)
      rw [World.size_alloc] at hg1
      have G1 := Lib.hid hg1
      have G0 := Lib.hid hg0
      clear hg1 hg0
      go_wp2_with (first | (refine wpList_load_row rfl 89 _ rfl (w.heap.size + 1) rfl 89 (smA 15) (0, 0) _ G1.out Tryd.underlying89 rfl smInfo ?_) | (refine wpList_store_row rfl 89 _ _ rfl w.heap.size (smA 15) rfl rfl 89 (smA 0) G0.out smInfo rfl smOne ?_))
      refine bodyPost_ret (v := .agg (smA 15)) (results_cell_row rfl _ _ w.heap.size 89 (smA 15) (0, 0) _ rfl (setRow_heap _ _ _ _ _ _ G0.out) Tryd.underlying89 rfl smInfo) rfl ⟨rfl, ?_⟩
      exact below_setRow (((Below.refl _ _).alloc (Nat.le_refl _) _).alloc (by simp) _) (Nat.le_refl _) _
end Go.Proofs.YtmmecpmeemhglaaDoor
