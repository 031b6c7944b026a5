/-
  slices.Concat over two rows of bounds. Conditions: at most a million bounds each.
-/
import Derived.Test.YtbdioabeopnfeaaSortS
import Derived.Shelf.Spec.SlicesGrow
import Derived.WalkKit
import Derived.WalkSpells
import Derived.WalkLawsBesides
import Derived.Deep.QuietTactic
import Derived.BigQuiet
import Derived.Handy
import Derived.Lib.Hide
namespace Go.Proofs.Ytbdioabeopnfeaa
open Go.RowKit

/-- What slices.Grow leaves: an empty row of the call's own. -/
theorem grow_bd (n : Nat) (w : World) (hn : n ≤ 3000000) :
    Calls Try.prog 105 #[.slice none 0 0, .int .i64 n] w fun e w' => ∃ v, e = .returned v ∧ w'.ownsRow w.heap.size 89 3 v ([] : List Bd).length (flatB []) ∧ Below w.heap.size w w' := by
  rcases Nat.eq_zero_or_pos n with rfl | hpos
  · refine Calls.mono (Any8.slices_Grow_room Try.growBd none 0 0 0 w (by omega) (by omega) (by omega) (by omega)) ?_
    rintro e w' ⟨rfl, rfl⟩
    exact ⟨_, rfl, own_nilB _ _, Below.refl _ _⟩
  · obtain ⟨i0, hi, hz0, hz1, hz2⟩ := info_parts infoBd
    have h := Any8.slices_Grow_grow Try.growBd i0 (.agg #[.int .i64 0, .int .i64 0, .int .i64 0]) hi hz0 (by omega) none 0 0 n [] w (by omega) (by omega) (by rw [hz2]; omega) (by omega) (by simp) (fun _ => rfl) (fun _ h => by cases h)
    refine Calls.mono h ?_
    rintro e w' ⟨rfl, rfl⟩
    have hge := grownCap_ge w (0 + n) 0 (Try.growBd_ren.t 25)
    have hcm := grownCap_le_maxLen w (0 + n) 0 (Try.growBd_ren.t 25) (by unfold maxLen; omega)
    refine ⟨_, rfl, ⟨rfl, .inr ⟨w.heap.size, _, _, rfl, Nat.le_refl _, heap_alloc_new w.drew _, Nat.zero_le _, hcm, ?_, by simp [flatB]⟩⟩, (Below.drew (Below.refl _ _)).alloc (by simp) _⟩
    simp only [Array.size_append, List.size_toArray, size_zeroCells, List.length_nil]
    have hz : (Value.agg #[.int .i64 0, .int .i64 0, .int .i64 0]).cells.size = 3 := rfl
    rw [hz]
    generalize grownCap w (0 + n) 0 (Try.growBd_ren.t 25) = G at *
    omega

def cat2 (l m : List Bd) (k : Nat) : List Bd := if k = 0 then [] else if k = 1 then l else l ++ m
def siz2 (l m : List Bd) (k : Nat) : Nat := if k = 0 then 0 else if k = 1 then l.length else l.length + m.length
theorem cat2_len (l m : List Bd) (k : Nat) : (cat2 l m k).length ≤ l.length + m.length := by
  unfold cat2
  split
  · simp
  · split
    · omega
    · rw [List.length_append]; omega
def RetOwn (w : World) (l : List Bd) (e : Ending) (w' : World) : Prop := ∃ v, e = .returned v ∧ w'.ownsRow w.heap.size 89 3 v l.length (flatB l) ∧ Below w.heap.size w w'
set_option maxRecDepth 100000 in
set_option maxHeartbeats 1600000 in
theorem concat_any (u v : Value) (l m : List Bd) (g : Nat) (w : World) (L L' : Nat) (hg : g < w.heap.size) (h0 : w.cell? ⟨g, 0, none⟩ = some u) (h1 : w.cell? ⟨g, 1, none⟩ = some v) (hu : RdB w L w.heap.size u l) (hv : RdB w L' w.heap.size v m) (hl : l.length ≤ 1000000) (hm : m.length ≤ 1000000) :
    Calls Try.prog 88 #[.slice (some ⟨g, 0, none⟩) 2 2] w (RetOwn w (l ++ m)) := by
  have hu0 := hu
  have hv0 := hv
  obtain ⟨A, c, rfl, hl63, _⟩ := hu
  obtain ⟨A2, c2, rfl, hm63, _⟩ := hv
  go_enter Try.func88, Try.ntmps88
  go_wp2
  go_loopw [3, 11] (fun o i wr => ∃ k : Nat, k ≤ 2 ∧ i = .int .i64 k ∧ o = .int .i64 (siz2 l m k : Nat) ∧ w = wr) (fun _ i _ => 2 - (intOf i).toNat)
  case atStart => exact ⟨0, by omega, rfl, rfl, rfl⟩
  case round =>
    obtain ⟨k, hk, rfl, rfl, rfl⟩ := hrel
    have h3 : k = 0 ∨ k = 1 ∨ k = 2 := by omega
    rcases h3 with rfl | rfl | rfl
    · have e0 : siz2 l m 0 = 0 := rfl
      rw [e0]
      have hsz : ¬ ((l.length : Int) < 0) := by omega
      go_wp2
      go_roundw
      case rel => exact ⟨1, by omega, by go_num, by simp [siz2], by first | trivial | rfl⟩
      case measure => simp [intOf]
    · have e0 : siz2 l m 1 = l.length := rfl
      rw [e0]
      have hsz : ¬ (((l.length : Int) + (m.length : Int)) < 0) := by omega
      go_wp2
      go_roundw
      case rel => exact ⟨2, by omega, by go_num, by simp [siz2], by first | trivial | rfl⟩
      case measure => simp [intOf]
    · have e0 : siz2 l m 2 = l.length + m.length := rfl
      rw [e0]
      go_wp2_with fail
      refine (grow_bd (l.length + m.length) _ (by omega)).mono ?_
      rintro e w1 ⟨v1, rfl, hown1, hb1⟩
      have H1 := Lib.hid hown1
      clear hown1
      have z1 := hb1.size
      have c0 := (hb1.cell (p := ⟨g, 0, none⟩) hg).trans h0
      have c1 := (hb1.cell (p := ⟨g, 1, none⟩) hg).trans h1
      go_wp2
      go_loopw [6, 27] (fun o i wi => ∃ k : Nat, k ≤ 2 ∧ i = .int .i64 k ∧ wi.ownsRow w.heap.size 89 3 o (cat2 l m k).length (flatB (cat2 l m k)) ∧ Below w.heap.size w wi) (fun _ i _ => 2 - (intOf i).toNat)
      case atStart => exact ⟨0, by omega, rfl, H1.out, hb1⟩
      case round =>
        obtain ⟨k, hk, rfl, hown, hbr⟩ := hrel
        have HO := Lib.hid hown
        clear hown c0 c1
        have hz := hbr.size
        have c0 := (hbr.cell (p := ⟨g, 0, none⟩) hg).trans h0
        have c1 := (hbr.cell (p := ⟨g, 1, none⟩) hg).trans h1
        have h3 : k = 0 ∨ k = 1 ∨ k = 2 := by omega
        rcases h3 with rfl | rfl | rfl
        · have e1 : cat2 l m 0 = [] := rfl
          rw [e1] at HO
          go_wp2_with (at_builtin; refine append_rdB _ rfl _ _ rfl w.heap.size _ [] rfl HO.out L w.heap.size _ l _ _ rfl (hu0.below hbr) ?_ ?_ ?_; (focus (simp; omega)); (focus go_size); intro v2 w2 hown2 hb2)
          go_roundw
          case rel => exact ⟨1, by omega, by go_num, by rw [show cat2 l m 1 = [] ++ l from rfl]; exact hown2, hbr.trans hb2⟩
          case measure => simp [intOf]
        · have e1 : cat2 l m 1 = l := rfl
          rw [e1] at HO
          go_wp2_with (at_builtin; refine append_rdB _ rfl _ _ rfl w.heap.size _ l rfl HO.out L' w.heap.size _ m _ _ rfl (hv0.below hbr) ?_ ?_ ?_; (focus omega); (focus go_size); intro v2 w2 hown2 hb2)
          go_roundw
          case rel => exact ⟨2, by omega, by go_num, by rw [show cat2 l m 2 = l ++ m from rfl]; exact hown2, hbr.trans hb2⟩
          case measure => simp [intOf]
        · have e1 : cat2 l m 2 = l ++ m := rfl
          rw [e1] at HO
          go_wp2
          go_ret
          exact ⟨_, rfl, HO.out, hbr⟩
end Go.Proofs.Ytbdioabeopnfeaa
