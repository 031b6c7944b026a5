/-
  The program's appendBytes and appendText: what each answers. Conditions: lengths.
-/
import Derived.Test.YtclpemmpckjemaaDoorCo3
import Derived.Lib.BufferWrite
import Derived.Laws.CopyOwn
import Derived.Outline
import Derived.WalkKit
import Derived.WalkSpells
import Derived.WalkLawsBesides
import Derived.Deep.QuietTactic
import Derived.BigQuiet
import Derived.Handy
import Derived.Lib.Hide
namespace Go.Proofs.YtclpemmpckjemaaDoor
open Go.RowKit

/-- A row of the call's own in block g with room for cap bytes, of which the first are l. -/
def RoomB (w : World) (base g cap : Nat) (l : List UInt8) : Prop := ∃ cur : Array Value, base ≤ g ∧ w.heap[g]? = some (.cells cur 5 (0, 0)) ∧ cur.size = cap ∧ cap ≤ maxLen ∧ cur.toList.take l.length = bytV l
theorem room_of_own {w : World} {base g n cap : Nat} {l : List UInt8} (h : w.ownsRow base 5 1 (.slice (some ⟨g, 0, none⟩) n cap) l.length (bytV l)) : n = l.length ∧ RoomB w base g cap l ∧ l.length ≤ cap := by
  rcases h.2 with ⟨h', _⟩ | ⟨g', cap', cur, h', hb, hh, hn, hc, hs, ht⟩
  · simp at h'
  · simp only [Value.slice.injEq, Option.some.injEq, Addr.mk.injEq, and_true] at h'
    obtain ⟨rfl, rfl, rfl⟩ := h'
    exact ⟨rfl, ⟨cur, hb, hh, by omega, hc, by rw [Nat.mul_one] at ht; exact ht⟩, hn⟩
theorem own_of_room {w : World} {base g cap : Nat} {l : List UInt8} (h : RoomB w base g cap l) (hl : l.length ≤ cap) : w.ownsRow base 5 1 (.slice (some ⟨g, 0, none⟩) l.length cap) l.length (bytV l) := by
  obtain ⟨cur, hb, hh, hs, hc, ht⟩ := h
  exact ⟨by rw [bytV_len]; omega, .inr ⟨g, cap, cur, rfl, hb, hh, hl, hc, by omega, by rw [Nat.mul_one]; exact ht⟩⟩
theorem grow_own (l : List UInt8) (g cap m : Nat) (w : World) (base : Nat) (hR : RoomB w base g cap l) (hl : l.length ≤ cap) (hz : base ≤ w.heap.size) (hm : l.length + m ≤ 140737488355328) :
    Calls Tryd.prog 17 #[.slice (some ⟨g, 0, none⟩) l.length cap, .int .i64 m] w fun e w' => ∃ g' cap', e = .returned (.slice (some ⟨g', 0, none⟩) l.length cap') ∧ RoomB w' base g' cap' l ∧ l.length + m ≤ cap' ∧ Below base w w' ∧ ((g' = g ∧ w' = w) ∨ (g' = w.heap.size ∧ Below w.heap.size w w')) := by
  obtain ⟨cur, hb, hh, hs, hc, ht⟩ := hR
  have hcm : cap ≤ 9223372036854775807 := by unfold maxLen at hc; omega
  by_cases hroom : l.length + m ≤ cap
  · refine (Any8.slices_Grow_room Tryd.growB (some ⟨g, 0, none⟩) l.length cap m w hl hcm (by omega) hroom).mono ?_
    rintro e w' ⟨rfl, rfl⟩
    exact ⟨g, cap, rfl, ⟨cur, hb, hh, hs, hc, ht⟩, hroom, Below.refl _ _, .inl ⟨rfl, rfl⟩⟩
  · obtain ⟨i0, hi, hz0, hz1, hz2⟩ := info_partsB infoB
    have h := Any8.slices_Grow_grow Tryd.growB i0 (.int .u8 0) hi hz0 (by omega) (some ⟨g, 0, none⟩) l.length cap m cur.toList w hl (by omega) (by rw [hz2]; omega) (by omega) (by rw [Array.length_toList, hz1]; omega) (fun e => by cases e) (fun a ha j u hu => by
      injection ha with ha; subst ha
      rw [show (⟨g, 0, none⟩ : Addr).add j = ⟨g, j, none⟩ by unfold Addr.add; split <;> simp_all, cell_of_row w g j cur _ _ hh]
      simpa using hu)
    refine Calls.mono h ?_
    rintro e w' ⟨rfl, rfl⟩
    have hge := grownCap_ge w (l.length + m) cap (Tryd.growB_ren.t 25)
    have hcm := grownCap_le_maxLen w (l.length + m) cap (Tryd.growB_ren.t 25) (by unfold maxLen; omega)
    generalize grownCap w (l.length + m) cap (Tryd.growB_ren.t 25) = G at *
    refine ⟨_, _, rfl, ⟨_, hz, heap_alloc_new w.drew _, ?_, hcm, ?_⟩, by omega, (Below.drew (Below.refl _ _)).alloc hz _, .inr ⟨rfl, (Below.drew (Below.refl _ _)).alloc (Nat.le_refl _) _⟩⟩
    · simp only [Array.size_append, List.size_toArray, size_zeroCells, Array.length_toList]
      have hzc : (Value.int .u8 0).cells.size = 1 := rfl
      rw [hzc]
      omega
    · simp only [Array.toList_append, List.append_assoc]
      rw [List.take_append_of_le_length (by simp; omega)]
      simpa using ht
/-- Every old cell outside the row's own block is as it was. -/
def Far (w : World) (v : Value) (w' : World) : Prop := ∀ ad : Addr, ad.block < w.heap.size → (∀ g, v.ownBlock = some g → ad.block ≠ g) → w'.cell? ad = w.cell? ad
set_option maxRecDepth 100000 in
set_option maxHeartbeats 3200000 in
theorem appendBytes_any (v : Value) (l : List UInt8) (s : ByteArray) (w : World) (base : Nat) (hO : w.ownsRow base 5 1 v l.length (bytV l)) (hl0 : 0 < l.length) (hz : base ≤ w.heap.size) (hm : l.length + s.size ≤ 140737488355328) :
    Calls Tryd.prog 31 #[v, .string s] w fun e w' => RetB base w (l ++ s.data.toList) e w' ∧ Far w v w' := by
  obtain ⟨g, cap, hv⟩ := Go.Joins.ownsRow_form hO hl0
  subst hv
  obtain ⟨_, hR, hlc⟩ := room_of_own hO
  have hgr := grow_own l g cap s.size w base hR hlc hz hm
  have HGR := Lib.hid hgr
  clear hgr hR hO
  go_enter Tryd.func31, Tryd.ntmps31
  go_wp2_with fail
  with_reducible refine HGR.out.mono ?_
  rintro e w1 ⟨g1, cap1, rfl, hR1, hcap1, hb1, hwh⟩
  clear HGR
  obtain ⟨cur, hb, hh, hs, hc, ht⟩ := hR1
  have hc63 : cap1 ≤ 9223372036854775807 := by unfold maxLen at hc; omega
  have e1 : (l.length : Int) + s.size ≤ cap1 := by omega
  have hsz : (Tryd.prog.info? 5).map (·.size) = some 1 := by
    obtain ⟨i0, hi, _, hz1, _⟩ := info_partsB infoB
    rw [hi]; simp [hz1]
  have hss : s.data.toList.length = s.size := by rw [← Lib.size_eq]
  have B1 := hb1
  have hfar0 : ∀ ad : Addr, ad.block < w.heap.size → ad.block ≠ g → w1.cell? ad = w.cell? ad ∧ ad.block ≠ g1 := by
    intro ad h1 h2
    rcases hwh with ⟨rfl, rfl⟩ | ⟨rfl, hbw⟩
    · exact ⟨rfl, h2⟩
    · exact ⟨hbw.cell h1, by omega⟩
  have HFR := Lib.hid hfar0
  clear hfar0
  have z1 := Nat.le_trans hz hb1.size
  by_cases hcc : l.length < cap1
  · have hcp := Lib.run_copy_row_string (P := Tryd.prog) w1 26 9 3 5 g1 l.length s.size (cap1 - l.length) s cur 5 Tryd.underlying26 hsz hh (Nat.le_refl _) (by omega)
    have hh2 : (w1.setRow g1 (cur.toList.take l.length ++ Lib.byteCells s.data.toList ++ cur.toList.drop (l.length + s.size)).toArray).heap[g1]? = some (.cells (cur.toList.take l.length ++ Lib.byteCells s.data.toList ++ cur.toList.drop (l.length + s.size)).toArray 5 (0, 0)) := setRow_heap w1 g1 _ _ _ _ hh
    have B2 := below_setRow B1 hb (cur.toList.take l.length ++ Lib.byteCells s.data.toList ++ cur.toList.drop (l.length + s.size)).toArray
    have hfin : RoomB (w1.setRow g1 (cur.toList.take l.length ++ Lib.byteCells s.data.toList ++ cur.toList.drop (l.length + s.size)).toArray) base g1 cap1 (l ++ s.data.toList) := by
      refine ⟨_, hb, hh2, ?_, hc, ?_⟩
      · have h3 : (Lib.byteCells s.data.toList).length = s.size := by rw [Lib.byteCells_length, hss]
        simp only [List.size_toArray, List.length_append, List.length_take, List.length_drop, h3, Array.length_toList]
        omega
      · have h3 : (Lib.byteCells s.data.toList) = bytV s.data.toList := rfl
        rw [ht, h3, bytV_app]
        rw [List.toList_toArray, List.take_append_of_le_length (by simp [bytV_len]), List.take_of_length_le (by simp [bytV_len])]
    have hf2 : Far w (.slice (some ⟨g, 0, none⟩) l.length cap) (w1.setRow g1 (cur.toList.take l.length ++ Lib.byteCells s.data.toList ++ cur.toList.drop (l.length + s.size)).toArray) := by
      intro ad h1 h2
      obtain ⟨h3, h4⟩ := HFR.out ad h1 (h2 g rfl)
      rw [← h3]
      exact World.cell?_of_block (setRow_other w1 g1 ad.block _ h4)
    have HF2 := Lib.hid hf2
    have HF := Lib.hid (own_of_room hfin (by rw [List.length_append, hss]; exact hcap1))
    generalize w1.setRow g1 (cur.toList.take l.length ++ Lib.byteCells s.data.toList ++ cur.toList.drop (l.length + s.size)).toArray = w2 at *
    have hlen : (l ++ s.data.toList).length = l.length + s.size := by rw [List.length_append, hss]
    have HLN := Lib.hid hlen
    clear hh hh2 hfin ht hsz hss hlen hs hc hf2
    go_wp2_with fail
    go_ret
    exact ⟨⟨_, by rw [← HLN.out]; rfl, HF.out, B2⟩, HF2.out⟩
  · have hs0 : s.size = 0 := by omega
    have hcl : cap1 = l.length := by omega
    have hsl : s.data.toList = [] := List.eq_nil_of_length_eq_zero (by rw [hss, hs0])
    have hcp := fun d dl dc => Lib.run_copy_empty_string (P := Tryd.prog) w1 26 9 3 5 d dl dc s Tryd.underlying26 (by rw [hsz]; rfl) hs0
    have HF := Lib.hid (own_of_room (cap := cap1) ⟨cur, hb, hh, hs, hc, ht⟩ (by omega))
    have HSL := Lib.hid hsl
    subst hcl
    clear hh ht hsz hss hs hc hsl
    go_wp2_with fail
    go_ret
    exact ⟨⟨_, rfl, by rw [HSL.out, List.append_nil]; exact HF.out, B1⟩, fun ad h1 h2 => (HFR.out ad h1 (h2 g rfl)).1⟩
end Go.Proofs.YtclpemmpckjemaaDoor
