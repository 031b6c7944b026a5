/-
  Contract of relationsOfSmall: the relation of each of the fifteen periods to each other one. Conditions: none.
-/
import Derived.Test.YtmmecpmeemhglaaDoorAl3
import Derived.Test.YtmmecpmeemhglaaDoorSmall
import Derived.Test.YtmmecpmeemhglaaDoorBlk
import Derived.Laws.CopyOwn
import Derived.StillTailTactics
import Derived.Deep.WholeRow
import Derived.WalkKit
import Derived.WalkSpells
import Derived.WalkLawsBesides
import Derived.Deep.QuietTactic
import Derived.BigQuiet
import Derived.Handy
import Derived.Lib.Hide
namespace Go.Proofs.YtmmecpmeemhglaaDoor
open Go.RowKit

def sf (k : Nat) : Int := smL.getD (k * 2) 0
def st (k : Nat) : Int := smL.getD (k * 2 + 1) 0
theorem smx0 (w : World) : (Instr.index 89 (.agg (smA 15)) (.int .i64 ((0 : Nat) : Int))).run Tryd.prog w = .ok (.agg #[.int .i64 (sf 0), .int .i64 (st 0)]) w := by kernel_rfl
theorem smx1 (w : World) : (Instr.index 89 (.agg (smA 15)) (.int .i64 ((1 : Nat) : Int))).run Tryd.prog w = .ok (.agg #[.int .i64 (sf 1), .int .i64 (st 1)]) w := by kernel_rfl
theorem smx2 (w : World) : (Instr.index 89 (.agg (smA 15)) (.int .i64 ((2 : Nat) : Int))).run Tryd.prog w = .ok (.agg #[.int .i64 (sf 2), .int .i64 (st 2)]) w := by kernel_rfl
theorem smx3 (w : World) : (Instr.index 89 (.agg (smA 15)) (.int .i64 ((3 : Nat) : Int))).run Tryd.prog w = .ok (.agg #[.int .i64 (sf 3), .int .i64 (st 3)]) w := by kernel_rfl
theorem smx4 (w : World) : (Instr.index 89 (.agg (smA 15)) (.int .i64 ((4 : Nat) : Int))).run Tryd.prog w = .ok (.agg #[.int .i64 (sf 4), .int .i64 (st 4)]) w := by kernel_rfl
theorem smx5 (w : World) : (Instr.index 89 (.agg (smA 15)) (.int .i64 ((5 : Nat) : Int))).run Tryd.prog w = .ok (.agg #[.int .i64 (sf 5), .int .i64 (st 5)]) w := by kernel_rfl
theorem smx6 (w : World) : (Instr.index 89 (.agg (smA 15)) (.int .i64 ((6 : Nat) : Int))).run Tryd.prog w = .ok (.agg #[.int .i64 (sf 6), .int .i64 (st 6)]) w := by kernel_rfl
theorem smx7 (w : World) : (Instr.index 89 (.agg (smA 15)) (.int .i64 ((7 : Nat) : Int))).run Tryd.prog w = .ok (.agg #[.int .i64 (sf 7), .int .i64 (st 7)]) w := by kernel_rfl
theorem smx8 (w : World) : (Instr.index 89 (.agg (smA 15)) (.int .i64 ((8 : Nat) : Int))).run Tryd.prog w = .ok (.agg #[.int .i64 (sf 8), .int .i64 (st 8)]) w := by kernel_rfl
theorem smx9 (w : World) : (Instr.index 89 (.agg (smA 15)) (.int .i64 ((9 : Nat) : Int))).run Tryd.prog w = .ok (.agg #[.int .i64 (sf 9), .int .i64 (st 9)]) w := by kernel_rfl
theorem smx10 (w : World) : (Instr.index 89 (.agg (smA 15)) (.int .i64 ((10 : Nat) : Int))).run Tryd.prog w = .ok (.agg #[.int .i64 (sf 10), .int .i64 (st 10)]) w := by kernel_rfl
theorem smx11 (w : World) : (Instr.index 89 (.agg (smA 15)) (.int .i64 ((11 : Nat) : Int))).run Tryd.prog w = .ok (.agg #[.int .i64 (sf 11), .int .i64 (st 11)]) w := by kernel_rfl
theorem smx12 (w : World) : (Instr.index 89 (.agg (smA 15)) (.int .i64 ((12 : Nat) : Int))).run Tryd.prog w = .ok (.agg #[.int .i64 (sf 12), .int .i64 (st 12)]) w := by kernel_rfl
theorem smx13 (w : World) : (Instr.index 89 (.agg (smA 15)) (.int .i64 ((13 : Nat) : Int))).run Tryd.prog w = .ok (.agg #[.int .i64 (sf 13), .int .i64 (st 13)]) w := by kernel_rfl
theorem smx14 (w : World) : (Instr.index 89 (.agg (smA 15)) (.int .i64 ((14 : Nat) : Int))).run Tryd.prog w = .ok (.agg #[.int .i64 (sf 14), .int .i64 (st 14)]) w := by kernel_rfl
theorem sm_idx_fin (w : World) : ∀ k : Fin 15, (Instr.index 89 (.agg (smA 15)) (.int .i64 (k.val : Int))).run Tryd.prog w = .ok (.agg #[.int .i64 (sf k.val), .int .i64 (st k.val)]) w
  | ⟨0, _⟩ => smx0 w
  | ⟨1, _⟩ => smx1 w
  | ⟨2, _⟩ => smx2 w
  | ⟨3, _⟩ => smx3 w
  | ⟨4, _⟩ => smx4 w
  | ⟨5, _⟩ => smx5 w
  | ⟨6, _⟩ => smx6 w
  | ⟨7, _⟩ => smx7 w
  | ⟨8, _⟩ => smx8 w
  | ⟨9, _⟩ => smx9 w
  | ⟨10, _⟩ => smx10 w
  | ⟨11, _⟩ => smx11 w
  | ⟨12, _⟩ => smx12 w
  | ⟨13, _⟩ => smx13 w
  | ⟨14, _⟩ => smx14 w
theorem sm_idx (k : Nat) (h : k < 15) (w : World) : (Instr.index 89 (.agg (smA 15)) (.int .i64 (k : Int))).run Tryd.prog w = .ok (.agg #[.int .i64 (sf k), .int .i64 (st k)]) w := sm_idx_fin w ⟨k, h⟩

/-- The relation of the period p to the period q of the fifteen; the row in which the first m of them are laid. -/
def relPQ (p q : Nat) : Int := relR (sf p) (st p) (sf q) (st q)
def btN (m : Nat) : List Int := (List.range 225).map fun i => if i < m then relPQ (i / 15) (i % 15) else 0
def btA (m : Nat) : Array Value := ((btN m).map fun z => Value.int .i64 z).toArray
theorem btA_get (m : Nat) (h : m < 225) : (btA m)[m]? = some (.int .i64 0) := by
  unfold btA btN
  rw [List.getElem?_toArray, List.getElem?_map, List.getElem?_map, List.getElem?_range h]
  simp
theorem btA_set (p q : Nat) (hp : p < 15) (hq : q < 15) : (btA (p * 15 + q)).setIfInBounds (p * 15 + q) (.int .i64 (relPQ p q)) = btA (p * 15 + q + 1) := by
  unfold btA
  rw [List.setIfInBounds_toArray]
  congr 1
  rw [← List.map_set]
  congr 1
  unfold btN
  apply List.ext_getElem?
  intro i
  rw [List.getElem?_set]
  simp only [List.length_map, List.length_range, List.getElem?_map]
  by_cases hi : i < 225
  · rw [List.getElem?_range hi]
    by_cases he : p * 15 + q = i
    · rw [if_pos he]
      subst he
      rw [if_pos hi]
      simp only [Option.map_some]
      rw [if_pos (by omega), show (p * 15 + q) / 15 = p by omega, show (p * 15 + q) % 15 = q by omega]
    · rw [if_neg he]
      simp only [Option.map_some]
      congr 1
      by_cases hl : i < p * 15 + q
      · rw [if_pos hl, if_pos (by omega)]
      · rw [if_neg hl, if_neg (by omega)]
  · rw [if_neg (by omega), List.getElem?_eq_none (by simp; omega)]
    simp

theorem btInfo : (Tryd.prog.info? 78).map (·.size) = some (btA 225).size := by kernel_rfl
theorem btSize : (Tryd.zeroCells78).size = (btA 225).size := by kernel_rfl
theorem btOne : (btA 225).all (·.oneCell') = true := by kernel_rfl
theorem btA_zero : btA 0 = Tryd.zeroCells78 := by kernel_rfl

set_option maxRecDepth 100000 in
set_option maxHeartbeats 1600000 in
theorem rels_any (w : World) :
    Calls Tryd.prog 49 #[] w fun e w' => e = .returned (.agg (btA 225)) ∧ Below w.heap.size w w' := by
  go_enter Tryd.func49, Tryd.ntmps49
  go_wp2_with fail
  refine (small_any _).mono ?_
  rintro e w1 ⟨rfl, hb⟩
  go_wp2_with (first | (refine wpList_store_row rfl 89 _ _ rfl w1.heap.size (smA 15) rfl rfl 89 _ (heap_alloc_new _ _) smInfo rfl smOne ?_; rw [World.setRow_alloc_new]) | (refine wpList_load_row rfl 89 _ rfl w1.heap.size rfl 89 (smA 15) (0, 0) _ (heap_alloc_new _ _) Tryd.underlying89 rfl smInfo ?_))
  have Z0 : Own (w1.alloc (.cells (smA 15) 89)) w.heap.size 78 Tryd.zeroCells78 := ((Own.new w _ _).alloc _ |>.below hb (by simp; omega)).alloc _
  have Z1 : Own (w1.alloc (.cells (smA 15) 89)) (w.heap.size + 1) 78 (btA 0) := (show Own w1 (w.heap.size + 1) _ (btA 0) from (show Own _ (w.heap.size + 1) _ (btA 0) from by have := Own.new (w.alloc (.cells Tryd.zeroCells78 78)) 78 Tryd.zeroCells78; rw [World.size_alloc] at this; rw [btA_zero]; exact this).below hb (by simp)).alloc _
  have Z2 : Own (w1.alloc (.cells (smA 15) 89)) w1.heap.size 89 (smA 15) := Own.new _ _ _
  have hz := hb.size
  simp only [World.size_alloc] at hz
  have ZB : Below w.heap.size w (w1.alloc (.cells (smA 15) 89)) := (by (repeat' (first | (with_reducible exact Below.refl _ _) | (with_reducible assumption) | (with_reducible refine Below.alloc ?_ ?_ _) | (with_reducible refine Below.drew ?_) | (with_reducible refine Below.setCell ?_ ?_ _) | (with_reducible refine Below.trans ?_ (Below.mono (by assumption) ?_)) | go_size)))
  go_loopw [9] (fun i wr => ∃ p : Nat, p ≤ 15 ∧ i = .int .i64 p ∧ Own wr w.heap.size 78 Tryd.zeroCells78 ∧ Own wr (w.heap.size + 1) 78 (btA (p * 15)) ∧ Own wr w1.heap.size 89 (smA 15) ∧ Below w.heap.size w wr) (fun i _ => 15 - (intOf i).toNat)
  case atStart => exact ⟨0, by omega, rfl, Z0, Z1, Z2, ZB⟩
  case round =>
    obtain ⟨p, hp, rfl, o0, o1, o2, hbr⟩ := hrel
    by_cases hlt : p < 15
    · have i0 := sm_idx p hlt
      have L2 := o2.lt
      go_wp2_with (refine wpList_load_row rfl 89 _ rfl w1.heap.size rfl 89 (smA 15) (0, 0) _ (Own.alloc o2 _) Tryd.underlying89 rfl smInfo ?_)
      have b0 : (wr.alloc (.cells #[.int .i64 (sf p), .int .i64 (st p)] 23)).cell? ⟨wr.heap.size, 0, none⟩ = some (.int .i64 (sf p)) := by simp
      have b1 : (wr.alloc (.cells #[.int .i64 (sf p), .int .i64 (st p)] 23)).cell? ⟨wr.heap.size, 1, none⟩ = some (.int .i64 (st p)) := by simp
      have HB0 := Lib.hid b0
      have HB1 := Lib.hid b1
      clear b0 b1
      generalize hg4 : wr.heap.size = g4 at *
      have HG4 := Lib.hid hg4
      clear hg4
      go_loopw [14] (fun i wi => ∃ q : Nat, q ≤ 15 ∧ i = .int .i64 q ∧ Own wi w.heap.size 78 Tryd.zeroCells78 ∧ Own wi (w.heap.size + 1) 78 (btA (p * 15 + q)) ∧ Own wi w1.heap.size 89 (smA 15) ∧ Below w.heap.size w wi ∧ wi.cell? ⟨g4, 0, none⟩ = some (.int .i64 (sf p)) ∧ wi.cell? ⟨g4, 1, none⟩ = some (.int .i64 (st p)) ∧ g4 < wi.heap.size) (fun i _ => 15 - (intOf i).toNat)
      case atStart => exact ⟨0, by omega, rfl, o0.alloc _, o1.alloc _, o2.alloc _, hbr.alloc (by have := hbr.size; omega) _, HB0.out, HB1.out, by have := HG4.out; simp; omega⟩
      case round =>
        obtain ⟨q, hq, rfl, r0, r1, r2, hbi, c0, c1, hsz⟩ := hrel
        by_cases hqt : q < 15
        · have j0 := sm_idx q hqt
          have e1 := (r1.cell (p * 15 + q)).trans (btA_get (p * 15 + q) (by omega))
          have e2 := r1.free (p * 15 + q)
          have L1 := r1.lt
          go_wp2
          go_region_with (go_at_call 12; refine (rel_any _ _ _ _ _).mono ?_; rintro e w2 ⟨rfl, hb2⟩; obtain ⟨hc, hf⟩ := bcell hb2; have hz2 := hb2.size; (try simp only [World.size_drew, World.size_alloc] at hz2); have hz3 : w.heap.size + 1 < w2.heap.size := (by omega); have rr : Own w2 (w.heap.size + 1) 78 (btA (p * 15 + q)) := ((show Own (wr.alloc (.cells #[.int .i64 (sf q), .int .i64 (st q)] 23)).drew _ _ _ from Own.alloc r1 _).below hb2 (by simp; omega)); have x1 := (rr.cell (p * 15 + q)).trans (btA_get (p * 15 + q) (by omega)); have x2 := rr.free (p * 15 + q))
          all_goals
            go_wp2
            have k0 := (Own.below (show Own (wr.alloc (.cells #[.int .i64 (sf q), .int .i64 (st q)] 23)).drew _ _ _ from Own.alloc r0 _) hb2 (by simp; omega))
            have k2 := (Own.below (show Own (wr.alloc (.cells #[.int .i64 (sf q), .int .i64 (st q)] 23)).drew _ _ _ from Own.alloc r2 _) hb2 (by have := r2.lt; simp; omega))
            have kk := rr.store (p * 15 + q) (.int .i64 (relPQ p q))
            rw [btA_set p q hlt hqt] at kk
            have e0 : (w2.setCell ⟨w.heap.size + 1, p * 15 + q, none⟩ (.int .i64 (relPQ p q))).cell? ⟨g4, 0, none⟩ = some (.int .i64 (sf p)) := by
              refine (World.cell?_setCell_other _ _ _ _ ?_).trans ((hc _ _ ?_).trans ((World.cell?_alloc_lt _ _ _ ?_).trans c0))
              · intro e; injection e; omega
              · simp; omega
              · exact hsz
            have e1 : (w2.setCell ⟨w.heap.size + 1, p * 15 + q, none⟩ (.int .i64 (relPQ p q))).cell? ⟨g4, 1, none⟩ = some (.int .i64 (st p)) := by
              refine (World.cell?_setCell_other _ _ _ _ ?_).trans ((hc _ _ ?_).trans ((World.cell?_alloc_lt _ _ _ ?_).trans c1))
              · intro e; injection e; omega
              · simp; omega
              · exact hsz
            have bb : Below w.heap.size w (w2.setCell ⟨w.heap.size + 1, p * 15 + q, none⟩ (.int .i64 (relPQ p q))) := (((hbi.alloc hbi.size _).drew).trans (hb2.mono (by have := hbi.size; simp; omega))).setCell (by simp) _
            go_roundw
            case rel => exact ⟨q + 1, by omega, by go_num, k0.far (by simp) _, kk, k2.far (by simp; omega) _, bb, e0, e1, by simp; omega⟩
            case measure => simp [intOf]; omega
        · have hq15 : q = 15 := by omega
          subst hq15
          go_wp2
          go_roundw
          case rel => exact ⟨p + 1, by omega, by go_num, r0, by rw [show (p + 1) * 15 = p * 15 + 15 by omega]; exact r1, r2, hbi⟩
          case measure => simp [intOf]; omega
    · have hp15 : p = 15 := by omega
      subst hp15
      go_wp2_with (first | (refine wpList_load_row rfl 78 _ rfl (w.heap.size + 1) rfl 78 (btA 225) (0, 0) _ o1 Tryd.underlying78 rfl btInfo ?_) | (refine wpList_store_row rfl 78 _ _ rfl w.heap.size (btA 225) rfl rfl 78 _ o0 btInfo btSize btOne ?_))
      refine bodyPost_ret (v := .agg (btA 225)) (results_cell_row rfl _ _ w.heap.size 78 (btA 225) (0, 0) _ rfl (setRow_heap _ _ _ _ _ _ o0) Tryd.underlying78 rfl btInfo) rfl ⟨rfl, ?_⟩
      exact below_setRow hbr (Nat.le_refl _) _
end Go.Proofs.YtmmecpmeemhglaaDoor
