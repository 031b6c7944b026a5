/-
  Contract of newTable: the sets of the relations that occur between three of the fifteen periods. Conditions: none.
-/
import Derived.Test.YtmmecpmeemhglaaDoorRels
import Derived.Test.YtmmecpmeemhglaaDoorSet
import Derived.Test.YtmmecpmeemhglaaDoorIdx
import Derived.WalkKit
import Derived.WalkSpells
import Derived.WalkLawsBesides
import Derived.Deep.QuietTactic
import Derived.BigQuiet
import Derived.Handy
import Derived.Lib.Hide
namespace Go.Proofs.YtmmecpmeemhglaaDoor
open Go.RowKit

def relN (p q : Nat) : Nat := (relPQ p q).toNat
theorem relN_all : ∀ p : Fin 15, ∀ q : Fin 15, relPQ p.val q.val = (relN p.val q.val : Int) ∧ relN p.val q.val < 13 := by decide
theorem relN_eq (p q : Nat) (hp : p < 15) (hq : q < 15) : relPQ p q = (relN p q : Int) := (relN_all ⟨p, hp⟩ ⟨q, hq⟩).1
theorem relN_lt (p q : Nat) (hp : p < 15) (hq : q < 15) : relN p q < 13 := (relN_all ⟨p, hp⟩ ⟨q, hq⟩).2

def btRow (p : Nat) : Array Value := (btA 225).extract (p * 15) (p * 15 + 15)
theorem bt_at (p q : Nat) (hp : p < 15) (hq : q < 15) : (btA 225)[p * 15 + q]? = some (.int .i64 (relN p q)) := by
  unfold btA btN
  rw [List.getElem?_toArray, List.getElem?_map, List.getElem?_map, List.getElem?_range (by omega)]
  simp only [Option.map_some]
  rw [if_pos (by omega), show (p * 15 + q) / 15 = p by omega, show (p * 15 + q) % 15 = q by omega, relN_eq p q hp hq]
theorem btRow_at (p q : Nat) (hp : p < 15) (hq : q < 15) : (btRow p)[q]? = some (.int .i64 (relN p q)) := by
  unfold btRow
  have hs : (btA 225).size = 225 := by unfold btA btN; simp
  rw [Array.getElem?_extract, if_pos (by rw [hs]; omega)]
  exact bt_at p q hp hq
theorem bt_row (p : Nat) (hp : p < 15) (w : World) : (Instr.index 78 (.agg (btA 225)) (.int .i64 (p : Int))).run Tryd.prog w = .ok (.agg (btRow p)) w :=
  idx_agg w Tryd.underlying78 (by kernel_rfl) (by kernel_rfl) hp
theorem bt_cell (p q : Nat) (hp : p < 15) (hq : q < 15) (w : World) : (Instr.index 77 (.agg (btRow p)) (.int .i64 (q : Int))).run Tryd.prog w = .ok (.int .i64 (relN p q)) w :=
  idx_cell w Tryd.underlying77 (by kernel_rfl) (by kernel_rfl) hq (btRow_at p q hp hq)

/-- The step at the triple m; the table when m triples are done. -/
def tbS (l : List Nat) (m : Nat) : List Nat :=
  l.set (relN (m / 225) (m / 15 % 15) * 13 + relN (m / 15 % 15) (m % 15)) (l.getD (relN (m / 225) (m / 15 % 15) * 13 + relN (m / 15 % 15) (m % 15)) 0 ||| 2 ^ relN (m / 225) (m % 15))
def tbN (m : Nat) : List Nat := (List.range m).foldl tbS (List.replicate 169 0)
theorem tbN_succ (m : Nat) : tbN (m + 1) = tbS (tbN m) m := by unfold tbN; rw [List.range_succ, List.foldl_append]; rfl
theorem tbN_len (m : Nat) : (tbN m).length = 169 := by
  induction m with
  | zero => simp only [tbN, List.range_zero, List.foldl_nil, List.length_replicate]
  | succ m ih => rw [tbN_succ]; unfold tbS; rw [List.length_set]; exact ih
theorem tbN_lt (m : Nat) (hm : m ≤ 3375) : ∀ i, (tbN m).getD i 0 < 8192 := by
  induction m with
  | zero => intro i; simp only [tbN, List.range_zero, List.foldl_nil]; rw [List.getD_eq_getElem?_getD, List.getElem?_replicate]; split <;> simp
  | succ m ih =>
    intro i
    rw [tbN_succ]
    unfold tbS
    rw [List.getD_eq_getElem?_getD, List.getElem?_set]
    split
    · split
      · exact or_lt (ih (by omega) _) (pow_lt _ (relN_lt _ _ (by omega) (by omega)))
      · simp
    · rw [← List.getD_eq_getElem?_getD]; exact ih (by omega) i
def tbA (m : Nat) : Array Value := ((tbN m).map fun z => Value.int .u16 (z : Nat)).toArray
theorem tbA_size (m : Nat) : (tbA m).size = 169 := by unfold tbA; simp [tbN_len]
def tbE (m i : Nat) : Nat := (tbN m).getD i 0
theorem tbE_lt (m : Nat) (hm : m ≤ 3375) (i : Nat) : tbE m i < 8192 := tbN_lt m hm i
theorem tbA_get (m i : Nat) (hi : i < 169) : (tbA m)[i]? = some (.int .u16 (tbE m i : Nat)) := by
  unfold tbA tbE
  rw [List.getElem?_toArray, List.getElem?_map, List.getD_eq_getElem?_getD, List.getElem?_eq_getElem (by rw [tbN_len]; exact hi)]
  rfl
theorem tbA_set (p q r : Nat) (_hp : p < 15) (hq : q < 15) (hr : r < 15) :
    (tbA ((p * 15 + q) * 15 + r)).setIfInBounds (relN p q * 13 + relN q r) (.int .u16 (tbE ((p * 15 + q) * 15 + r) (relN p q * 13 + relN q r) ||| 2 ^ relN p r : Nat)) = tbA ((p * 15 + q) * 15 + r + 1) := by
  unfold tbA
  rw [List.setIfInBounds_toArray, ← List.map_set, tbN_succ]
  unfold tbS tbE
  rw [show ((p * 15 + q) * 15 + r) / 225 = p by omega, show ((p * 15 + q) * 15 + r) / 15 % 15 = q by omega, show ((p * 15 + q) * 15 + r) % 15 = r by omega]

theorem tbInfo : (Tryd.prog.info? 56).map (·.size) = some (tbA 3375).size := by rw [tbA_size]; kernel_rfl
theorem tbSize : (tbA 0).size = (tbA 3375).size := by rw [tbA_size, tbA_size]
theorem tbOne : (tbA 3375).all (·.oneCell') = true := by
  rw [Array.all_eq_true_iff_forall_mem]
  intro x hx
  unfold tbA at hx
  simp only [List.mem_toArray, List.mem_map] at hx
  obtain ⟨z, _, rfl⟩ := hx
  rfl
theorem tbA_zero : tbA 0 = Tryd.zeroCells56 := by kernel_rfl

set_option maxRecDepth 100000 in
set_option maxHeartbeats 1600000 in
theorem tab_any (w : World) :
    Calls Tryd.prog 34 #[] w fun e w' => e = .returned (.agg (tbA 3375)) ∧ Below w.heap.size w w' := by
  go_enter Tryd.func34, Tryd.ntmps34
  go_wp2_with fail
  refine (rels_any _).mono ?_
  rintro e w1 ⟨rfl, hb⟩
  go_wp2_with (refine wpList_store_row rfl 78 _ _ rfl w1.heap.size (btA 225) rfl rfl 78 _ (heap_alloc_new _ _) btInfo btSize btOne ?_; rw [World.setRow_alloc_new])
  have Z0 : Own (w1.alloc (.cells (btA 225) 78)) w.heap.size 56 (tbA 0) := (show Own w1 w.heap.size _ (tbA 0) from (show Own _ w.heap.size _ (tbA 0) from by rw [tbA_zero]; exact (Own.new w _ _).alloc _).below hb (by simp; omega)).alloc _
  have Z1 : Own (w1.alloc (.cells (btA 225) 78)) (w.heap.size + 1) 56 (tbA 0) := (show Own w1 (w.heap.size + 1) _ (tbA 0) from (show Own _ (w.heap.size + 1) _ (tbA 0) from by have := Own.new (w.alloc (.cells Tryd.zeroCells56 56)) 56 Tryd.zeroCells56; rw [World.size_alloc] at this; rw [tbA_zero]; exact this).below hb (by simp)).alloc _
  have Z2 : Own (w1.alloc (.cells (btA 225) 78)) w1.heap.size 78 (btA 225) := Own.new _ _ _
  have hz := hb.size
  simp only [World.size_alloc] at hz
  have ZB : Below w.heap.size w (w1.alloc (.cells (btA 225) 78)) := (by (repeat' (first | (with_reducible exact Below.refl _ _) | (with_reducible assumption) | (with_reducible refine Below.alloc ?_ ?_ _) | (with_reducible refine Below.drew ?_) | (with_reducible refine Below.setCell ?_ ?_ _) | (with_reducible refine Below.trans ?_ (Below.mono (by assumption) ?_)) | go_size)))
  go_loopw [8] (fun i wr => ∃ p : Nat, p ≤ 15 ∧ i = .int .i64 p ∧ Own wr w.heap.size 56 (tbA 0) ∧ Own wr (w.heap.size + 1) 56 (tbA (p * 15 * 15)) ∧ Own wr w1.heap.size 78 (btA 225) ∧ Below w.heap.size w wr) (fun i _ => 15 - (intOf i).toNat)
  case atStart => exact ⟨0, by omega, rfl, Z0, Z1, Z2, ZB⟩
  case round =>
    obtain ⟨p, hp, rfl, o0, o1, o2, hbr⟩ := hrel
    by_cases hlt : p < 15
    · have hdp : decide ((p : Int) < 15) = true := by simp; omega
      go_wp2
      go_loopw [11] (fun i wi => ∃ q : Nat, q ≤ 15 ∧ i = .int .i64 q ∧ Own wi w.heap.size 56 (tbA 0) ∧ Own wi (w.heap.size + 1) 56 (tbA ((p * 15 + q) * 15)) ∧ Own wi w1.heap.size 78 (btA 225) ∧ Below w.heap.size w wi) (fun i _ => 15 - (intOf i).toNat)
      case atStart => exact ⟨0, by omega, rfl, o0, o1, o2, hbr⟩
      case round =>
        obtain ⟨q, hq, rfl, r0, r1, r2, hbi⟩ := hrel
        by_cases hqt : q < 15
        · have hdq : decide ((q : Int) < 15) = true := by simp; omega
          go_wp2
          go_loopw [14] (fun i wk => ∃ r : Nat, r ≤ 15 ∧ i = .int .i64 r ∧ Own wk w.heap.size 56 (tbA 0) ∧ Own wk (w.heap.size + 1) 56 (tbA ((p * 15 + q) * 15 + r)) ∧ Own wk w1.heap.size 78 (btA 225) ∧ Below w.heap.size w wk) (fun i _ => 15 - (intOf i).toNat)
          case atStart => exact ⟨0, by omega, rfl, r0, r1, r2, hbi⟩
          case round =>
            obtain ⟨r, hr, rfl, s0, s1, s2, hbk⟩ := hrel
            by_cases hrt : r < 15
            · have c1 := (s2.cell (p * 15 + q)).trans (bt_at p q hlt hqt)
              have c2 := (s2.cell (q * 15 + r)).trans (bt_at q r hqt hrt)
              have c3 := (s2.cell (p * 15 + r)).trans (bt_at p r hlt hrt)
              have l1 := relN_lt p q hlt hqt
              have l2 := relN_lt q r hqt hrt
              have l3 := relN_lt p r hlt hrt
              have e1 := (s1.cell (relN p q * 13 + relN q r)).trans (tbA_get ((p * 15 + q) * 15 + r) (relN p q * 13 + relN q r) (by omega))
              have e2 := s1.free (relN p q * 13 + relN q r)
              have L1 := s1.lt
              have L2 := s2.lt
              have HS := Lib.hid (tbA_set p q r hlt hqt hrt)
              go_wp2
              go_quiet (fail)
              go_wp2
              go_region_with (go_at_call 50; refine (with_any _ _ _ (tbE_lt _ (by omega) _) l3).mono ?_; rintro e w2 ⟨rfl, hb2⟩; have t1 := Own.below (show Own (World.drew (wr.drewN nq)) _ _ _ from s1) hb2 L1; have d1 := (t1.cell (relN p q * 13 + relN q r)).trans (tbA_get ((p * 15 + q) * 15 + r) (relN p q * 13 + relN q r) (by omega)); have d2 := t1.free (relN p q * 13 + relN q r))
              all_goals
                go_wp2
                have k0 := (Own.below (show Own (World.drewN wr (nq + 1)) _ _ _ from s0) hb2 (show w.heap.size < wr.heap.size by omega))
                have k2 := (Own.below (show Own (World.drewN wr (nq + 1)) _ _ _ from s2) hb2 L2)
                have kk := t1.store (relN p q * 13 + relN q r) (.int .u16 (tbE ((p * 15 + q) * 15 + r) (relN p q * 13 + relN q r) ||| 2 ^ relN p r : Nat))
                rw [HS.out] at kk
                have bb : Below w.heap.size w (w2.setCell ⟨w.heap.size + 1, relN p q * 13 + relN q r, none⟩ (.int .u16 (tbE ((p * 15 + q) * 15 + r) (relN p q * 13 + relN q r) ||| 2 ^ relN p r : Nat))) := ((below_drewN hbk (nq + 1)).trans (hb2.mono hbk.size)).setCell (by simp) _
                go_roundw
                case rel => exact ⟨r + 1, by omega, by go_num, k0.far (by simp) _, kk, k2.far (by simp; omega) _, bb⟩
                case measure => simp [intOf]; omega
            · have hr15 : r = 15 := by omega
              subst hr15
              go_wp2
              go_roundw
              case rel => exact ⟨q + 1, by omega, by go_num, s0, by rw [show (p * 15 + (q + 1)) * 15 = (p * 15 + q) * 15 + 15 by omega]; exact s1, s2, hbk⟩
              case measure => simp [intOf]; omega
        · have hq15 : q = 15 := by omega
          subst hq15
          go_wp2
          go_roundw
          case rel => exact ⟨p + 1, by omega, by go_num, r0, by rw [show (p + 1) * 15 * 15 = (p * 15 + 15) * 15 by omega]; exact r1, r2, hbi⟩
          case measure => simp [intOf]; omega
    · have hp15 : p = 15 := by omega
      subst hp15
      rw [show 15 * 15 * 15 = 3375 from rfl] at o1
      go_wp2_with (first | (refine wpList_load_row rfl 56 _ rfl (w.heap.size + 1) rfl 56 (tbA 3375) (0, 0) _ o1 Tryd.underlying56 rfl tbInfo ?_) | (refine wpList_store_row rfl 56 _ _ rfl w.heap.size (tbA 3375) rfl rfl 56 _ o0 tbInfo tbSize tbOne ?_))
      refine bodyPost_ret (v := .agg (tbA 3375)) (results_cell_row rfl _ _ w.heap.size 56 (tbA 3375) (0, 0) _ rfl (setRow_heap _ _ _ _ _ _ o0) Tryd.underlying56 rfl tbInfo) rfl ⟨rfl, ?_⟩
      exact below_setRow hbr (Nat.le_refl _) _
end Go.Proofs.YtmmecpmeemhglaaDoor
