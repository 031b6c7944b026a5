import Derived.Test.YtdhemhmgenhmaaaGreatPKb
import Derived.Test.YtdhemhmgenhmaaaGreatPIb
import Derived.Test.YtdhemhmgenhmaaaGreatMC
import Derived.WalkKit
import Derived.WalkSpells
import Derived.WalkLawsBesides
import Derived.Deep.QuietTactic
import Derived.BigQuiet
import Derived.Handy
import Derived.Lib.Hide
set_option maxRecDepth 100000
set_option maxHeartbeats 25600000
set_option linter.unusedVariables false
set_option linter.unusedSimpArgs false
/-
  Window. Conditions: lengths.
-/
namespace Go.Proofs.YtdhemhmgenhmaaaGreat
open Go.RowKit
theorem onC_take (zs : List Cnd) (k : Nat) (z : Cnd) (c : Int) (h : zs[k]? = some z) : onC (zs.take (k + 1)) c = if z.col = c then onC (zs.take k) c ++ [z] else onC (zs.take k) c := by
 unfold onC
 rw [List.take_add_one, h, List.filter_append]
 by_cases hz : z.col = c
 ·rw [if_pos hz]
  simp [hz]
 ·rw [if_neg hz]
  simp [hz]
theorem nar_take (zs : List Cnd) (k : Nat) (z : Cnd) (c : Int) (i : Itv) (h : zs[k]? = some z) : (onC (zs.take (k + 1)) c).foldl narI i = if z.col = c then narI ((onC (zs.take k) c).foldl narI i) z else (onC (zs.take k) c).foldl narI i := by
 rw [onC_take zs k z c h]
 by_cases hz : z.col = c
 ·rw [if_pos hz, if_pos hz, List.foldl_append]
  rfl
 ·rw [if_neg hz, if_neg hz]
theorem cvld (zs : List Ex) : ∀ z ∈ zs.filterMap condE, vldP z.v = true := fun z hz => by
 obtain ⟨e, _, he⟩ := List.mem_filterMap.1 hz
 exact (cond_vld he).1
theorem RdQ.at {w : World} {L B : Nat} {v : Value} {zs : List Cnd} (h : RdQ w L B v zs) (k : Nat) (z : Cnd) (hk : zs[k]? = some z) : ∃ (ad : Addr) (c : Nat), v = .slice (some ad) zs.length c ∧ L ≤ ad.block ∧ ad.block < B ∧
  w.cell? (ad.add (k * 5)) = some (.int .i64 z.op) ∧ w.cell? ⟨(ad.add (k * 5)).block, (ad.add (k * 5)).off + 1, none⟩ = some (.int .i64 z.col) ∧ w.cell? ⟨(ad.add (k * 5)).block, (ad.add (k * 5)).off + 2, none⟩ = some (.int .i64 z.v.1) ∧ w.cell? ⟨(ad.add (k * 5)).block, (ad.add (k * 5)).off + 3, none⟩ = some (.int .i64 z.v.2.1) ∧ w.cell? ⟨(ad.add (k * 5)).block, (ad.add (k * 5)).off + 4, none⟩ = some (.string z.v.2.2) := by
 obtain ⟨A, c, h1, h2, h3⟩ := h
 obtain ⟨ad, rfl, g2, g3, c0, c1, c2, c3, c4⟩ := h3 k z hk
 have ho : (ad.add (k * 5)).off = ad.off + k * 5 := by unfold Addr.add; split <;> simp_all
 refine ⟨ad, c, h1, g2, g3, c0, ?_, ?_, ?_, ?_⟩
 all_goals rw [add_blk, ho]
 ·exact c1
 ·exact c2
 ·exact c3
 ·exact c4
def WinI (w wr : World) (g8 : Nat) (v : Value) (zs : List Cnd) (i j : Itv) : Prop :=
 Own wr g8 84 #[.int .i64 i.lo.1, .int .i64 i.lo.2.1, .string i.lo.2.2, .bool i.ls, .int .i64 i.hi.1, .int .i64 i.hi.2.1, .string i.hi.2.2, .bool i.hs, .bool i.im] ∧ Own wr (g8 + 1) 84 #[.int .i64 j.lo.1, .int .i64 j.lo.2.1, .string j.lo.2.2, .bool j.ls, .int .i64 j.hi.1, .int .i64 j.hi.2.1, .string j.hi.2.2, .bool j.hs, .bool j.im] ∧ Own wr (w.heap.size + 1) 55 #[.int .i64 0, .int .i64 0] ∧ w.heap.size + 1 < g8 ∧ RdQ wr (g8 + 2) wr.heap.size v zs ∧ Below w.heap.size w wr
theorem winI_lo {w wr : World} {g8 : Nat} {v : Value} {zs : List Cnd} {i j : Itv} (r : Itv) (h : WinI w wr g8 v zs i j) : WinI w (((((((((wr.setCell ⟨g8, 0, none⟩ (.int .i64 r.lo.1)).setCell ⟨g8, 1, none⟩ (.int .i64 r.lo.2.1)).setCell ⟨g8, 2, none⟩ (.string r.lo.2.2)).setCell ⟨g8, 3, none⟩ (.bool r.ls)).setCell ⟨g8, 4, none⟩ (.int .i64 r.hi.1)).setCell ⟨g8, 5, none⟩ (.int .i64 r.hi.2.1)).setCell ⟨g8, 6, none⟩ (.string r.hi.2.2)).setCell ⟨g8, 7, none⟩ (.bool r.hs)).setCell ⟨g8, 8, none⟩ (.bool r.im)) g8 v zs r j := by
 obtain ⟨h1, h2, h3, h4, h5, h6⟩ := h
 refine ⟨?_, ?_, (((((((((h3.far (p := ⟨g8, 0, none⟩) (by show (w.heap.size + 1) ≠ g8; omega) (.int .i64 r.lo.1)).far (p := ⟨g8, 1, none⟩) (by show (w.heap.size + 1) ≠ g8; omega) (.int .i64 r.lo.2.1)).far (p := ⟨g8, 2, none⟩) (by show (w.heap.size + 1) ≠ g8; omega) (.string r.lo.2.2)).far (p := ⟨g8, 3, none⟩) (by show (w.heap.size + 1) ≠ g8; omega) (.bool r.ls)).far (p := ⟨g8, 4, none⟩) (by show (w.heap.size + 1) ≠ g8; omega) (.int .i64 r.hi.1)).far (p := ⟨g8, 5, none⟩) (by show (w.heap.size + 1) ≠ g8; omega) (.int .i64 r.hi.2.1)).far (p := ⟨g8, 6, none⟩) (by show (w.heap.size + 1) ≠ g8; omega) (.string r.hi.2.2)).far (p := ⟨g8, 7, none⟩) (by show (w.heap.size + 1) ≠ g8; omega) (.bool r.hs)).far (p := ⟨g8, 8, none⟩) (by show (w.heap.size + 1) ≠ g8; omega) (.bool r.im)), h4, ?_, (((((((((h6.sc g8 0 (.int .i64 r.lo.1)).sc g8 1 (.int .i64 r.lo.2.1)).sc g8 2 (.string r.lo.2.2)).sc g8 3 (.bool r.ls)).sc g8 4 (.int .i64 r.hi.1)).sc g8 5 (.int .i64 r.hi.2.1)).sc g8 6 (.string r.hi.2.2)).sc g8 7 (.bool r.hs)).sc g8 8 (.bool r.im))⟩
 ·have hx := (((((((((h1.store 0 (.int .i64 r.lo.1)).store 1 (.int .i64 r.lo.2.1)).store 2 (.string r.lo.2.2)).store 3 (.bool r.ls)).store 4 (.int .i64 r.hi.1)).store 5 (.int .i64 r.hi.2.1)).store 6 (.string r.hi.2.2)).store 7 (.bool r.hs)).store 8 (.bool r.im))
  simp only [List.setIfInBounds_toArray, List.set_cons_zero, List.set_cons_succ] at hx
  exact hx
 ·exact (((((((((h2.far (p := ⟨g8, 0, none⟩) (by show (g8 + 1) ≠ g8; omega) (.int .i64 r.lo.1)).far (p := ⟨g8, 1, none⟩) (by show (g8 + 1) ≠ g8; omega) (.int .i64 r.lo.2.1)).far (p := ⟨g8, 2, none⟩) (by show (g8 + 1) ≠ g8; omega) (.string r.lo.2.2)).far (p := ⟨g8, 3, none⟩) (by show (g8 + 1) ≠ g8; omega) (.bool r.ls)).far (p := ⟨g8, 4, none⟩) (by show (g8 + 1) ≠ g8; omega) (.int .i64 r.hi.1)).far (p := ⟨g8, 5, none⟩) (by show (g8 + 1) ≠ g8; omega) (.int .i64 r.hi.2.1)).far (p := ⟨g8, 6, none⟩) (by show (g8 + 1) ≠ g8; omega) (.string r.hi.2.2)).far (p := ⟨g8, 7, none⟩) (by show (g8 + 1) ≠ g8; omega) (.bool r.hs)).far (p := ⟨g8, 8, none⟩) (by show (g8 + 1) ≠ g8; omega) (.bool r.im))
 ·simp only [World.size_setCell]
  exact (((((((((h5.far (p := ⟨g8, 0, none⟩) (by show g8 < _; omega) (.int .i64 r.lo.1)).far (p := ⟨g8, 1, none⟩) (by show g8 < _; omega) (.int .i64 r.lo.2.1)).far (p := ⟨g8, 2, none⟩) (by show g8 < _; omega) (.string r.lo.2.2)).far (p := ⟨g8, 3, none⟩) (by show g8 < _; omega) (.bool r.ls)).far (p := ⟨g8, 4, none⟩) (by show g8 < _; omega) (.int .i64 r.hi.1)).far (p := ⟨g8, 5, none⟩) (by show g8 < _; omega) (.int .i64 r.hi.2.1)).far (p := ⟨g8, 6, none⟩) (by show g8 < _; omega) (.string r.hi.2.2)).far (p := ⟨g8, 7, none⟩) (by show g8 < _; omega) (.bool r.hs)).far (p := ⟨g8, 8, none⟩) (by show g8 < _; omega) (.bool r.im))
theorem winI_hi {w wr : World} {g8 : Nat} {v : Value} {zs : List Cnd} {i j : Itv} (r : Itv) (h : WinI w wr g8 v zs i j) : WinI w (((((((((wr.setCell ⟨g8 + 1, 0, none⟩ (.int .i64 r.lo.1)).setCell ⟨g8 + 1, 1, none⟩ (.int .i64 r.lo.2.1)).setCell ⟨g8 + 1, 2, none⟩ (.string r.lo.2.2)).setCell ⟨g8 + 1, 3, none⟩ (.bool r.ls)).setCell ⟨g8 + 1, 4, none⟩ (.int .i64 r.hi.1)).setCell ⟨g8 + 1, 5, none⟩ (.int .i64 r.hi.2.1)).setCell ⟨g8 + 1, 6, none⟩ (.string r.hi.2.2)).setCell ⟨g8 + 1, 7, none⟩ (.bool r.hs)).setCell ⟨g8 + 1, 8, none⟩ (.bool r.im)) g8 v zs i r := by
 obtain ⟨h1, h2, h3, h4, h5, h6⟩ := h
 refine ⟨?_, ?_, (((((((((h3.far (p := ⟨g8 + 1, 0, none⟩) (by show (w.heap.size + 1) ≠ g8 + 1; omega) (.int .i64 r.lo.1)).far (p := ⟨g8 + 1, 1, none⟩) (by show (w.heap.size + 1) ≠ g8 + 1; omega) (.int .i64 r.lo.2.1)).far (p := ⟨g8 + 1, 2, none⟩) (by show (w.heap.size + 1) ≠ g8 + 1; omega) (.string r.lo.2.2)).far (p := ⟨g8 + 1, 3, none⟩) (by show (w.heap.size + 1) ≠ g8 + 1; omega) (.bool r.ls)).far (p := ⟨g8 + 1, 4, none⟩) (by show (w.heap.size + 1) ≠ g8 + 1; omega) (.int .i64 r.hi.1)).far (p := ⟨g8 + 1, 5, none⟩) (by show (w.heap.size + 1) ≠ g8 + 1; omega) (.int .i64 r.hi.2.1)).far (p := ⟨g8 + 1, 6, none⟩) (by show (w.heap.size + 1) ≠ g8 + 1; omega) (.string r.hi.2.2)).far (p := ⟨g8 + 1, 7, none⟩) (by show (w.heap.size + 1) ≠ g8 + 1; omega) (.bool r.hs)).far (p := ⟨g8 + 1, 8, none⟩) (by show (w.heap.size + 1) ≠ g8 + 1; omega) (.bool r.im)), h4, ?_, (((((((((h6.sc (g8 + 1) 0 (.int .i64 r.lo.1)).sc (g8 + 1) 1 (.int .i64 r.lo.2.1)).sc (g8 + 1) 2 (.string r.lo.2.2)).sc (g8 + 1) 3 (.bool r.ls)).sc (g8 + 1) 4 (.int .i64 r.hi.1)).sc (g8 + 1) 5 (.int .i64 r.hi.2.1)).sc (g8 + 1) 6 (.string r.hi.2.2)).sc (g8 + 1) 7 (.bool r.hs)).sc (g8 + 1) 8 (.bool r.im))⟩
 ·exact (((((((((h1.far (p := ⟨g8 + 1, 0, none⟩) (by show g8 ≠ g8 + 1; omega) (.int .i64 r.lo.1)).far (p := ⟨g8 + 1, 1, none⟩) (by show g8 ≠ g8 + 1; omega) (.int .i64 r.lo.2.1)).far (p := ⟨g8 + 1, 2, none⟩) (by show g8 ≠ g8 + 1; omega) (.string r.lo.2.2)).far (p := ⟨g8 + 1, 3, none⟩) (by show g8 ≠ g8 + 1; omega) (.bool r.ls)).far (p := ⟨g8 + 1, 4, none⟩) (by show g8 ≠ g8 + 1; omega) (.int .i64 r.hi.1)).far (p := ⟨g8 + 1, 5, none⟩) (by show g8 ≠ g8 + 1; omega) (.int .i64 r.hi.2.1)).far (p := ⟨g8 + 1, 6, none⟩) (by show g8 ≠ g8 + 1; omega) (.string r.hi.2.2)).far (p := ⟨g8 + 1, 7, none⟩) (by show g8 ≠ g8 + 1; omega) (.bool r.hs)).far (p := ⟨g8 + 1, 8, none⟩) (by show g8 ≠ g8 + 1; omega) (.bool r.im))
 ·have hx := (((((((((h2.store 0 (.int .i64 r.lo.1)).store 1 (.int .i64 r.lo.2.1)).store 2 (.string r.lo.2.2)).store 3 (.bool r.ls)).store 4 (.int .i64 r.hi.1)).store 5 (.int .i64 r.hi.2.1)).store 6 (.string r.hi.2.2)).store 7 (.bool r.hs)).store 8 (.bool r.im))
  simp only [List.setIfInBounds_toArray, List.set_cons_zero, List.set_cons_succ] at hx
  exact hx
 ·simp only [World.size_setCell]
  exact (((((((((h5.far (p := ⟨g8 + 1, 0, none⟩) (by show g8 + 1 < _; omega) (.int .i64 r.lo.1)).far (p := ⟨g8 + 1, 1, none⟩) (by show g8 + 1 < _; omega) (.int .i64 r.lo.2.1)).far (p := ⟨g8 + 1, 2, none⟩) (by show g8 + 1 < _; omega) (.string r.lo.2.2)).far (p := ⟨g8 + 1, 3, none⟩) (by show g8 + 1 < _; omega) (.bool r.ls)).far (p := ⟨g8 + 1, 4, none⟩) (by show g8 + 1 < _; omega) (.int .i64 r.hi.1)).far (p := ⟨g8 + 1, 5, none⟩) (by show g8 + 1 < _; omega) (.int .i64 r.hi.2.1)).far (p := ⟨g8 + 1, 6, none⟩) (by show g8 + 1 < _; omega) (.string r.hi.2.2)).far (p := ⟨g8 + 1, 7, none⟩) (by show g8 + 1 < _; omega) (.bool r.hs)).far (p := ⟨g8 + 1, 8, none⟩) (by show g8 + 1 < _; omega) (.bool r.im))
theorem WinI.below {w wr wx : World} {g8 : Nat} {v : Value} {zs : List Cnd} {i j : Itv} (h : WinI w wr g8 v zs i j) (hb : Below wr.heap.size wr wx) : WinI w wx g8 v zs i j := by
 obtain ⟨h1, h2, h3, h4, h5, h6⟩ := h
 exact ⟨h1.below hb h1.lt, h2.below hb h2.lt, h3.below hb h3.lt, h4, h5.step hb (Nat.le_refl _), h6.trans (hb.mono h6.size)⟩
theorem pWin_any (d : Nat) (e : Ex) (u : Value) (f t : Int) (w : World) (L : Nat) (h : RdE w L w.heap.size d u e.args) (hl : (conjE d e).length ≤ 1099511627776) :
  Calls Tryz.prog 40 #[exV e u, .int .i64 f, .int .i64 t] w fun e' w' => e' = .returned (.tuple #[.agg #[.int .i64 (winE ((conjE d e).filterMap condE) f t).1.1, .int .i64 (winE ((conjE d e).filterMap condE) f t).1.2], .bool (winE ((conjE d e).filterMap condE) f t).2]) ∧ Below w.heap.size w w' := by
 obtain ⟨A, c, rfl, _⟩ := h.slice
 have b1 := bel_mk w (.cells (exA e (.slice A e.args.length c)) 26)
 have b2 := bel_mk (w.alloc (.cells (exA e (.slice A e.args.length c)) 26)) (.cells #[.int .i64 0, .int .i64 0] 55)
 have HB := Lib.hid (b1.trans (b2.mono b1.size))
 have HE := Lib.hid ((Own.new w 26 (exA e (.slice A e.args.length c))).alloc (.cells #[.int .i64 0, .int .i64 0] 55))
 have HP := Lib.hid (show Own ((w.alloc (.cells (exA e (.slice A e.args.length c)) 26)).alloc (.cells #[.int .i64 0, .int .i64 0] 55)) (w.heap.size + 1) 55 #[.int .i64 0, .int .i64 0] from Va.own_two _)
 have HC := Lib.hid (fun (W : World) (hb : Below w.heap.size w W) => pConds_any d e (.slice A e.args.length c) W L (h.step hb (Nat.le_refl _)) hl)
 have HV := Lib.hid (cvld (conjE d e))
 have HI1 := Lib.hid (fun W => pItI_any 0 1099511627775 W)
 have HI2 := Lib.hid (fun W => pItI_any 1 1099511627776 W)
 clear h b1 b2 hl
 generalize (conjE d e).filterMap condE = zs at *
 have hwin : winE zs f t = winB ((onC zs f).foldl narI (itI 0 1099511627775)) ((onC zs t).foldl narI (itI 1 1099511627776)) := rfl
 rw [hwin]
 clear hwin
 generalize itI 0 1099511627775 = i0 at *
 generalize itI 1 1099511627776 = j0 at *
 unfold exV exA itvV at *
 go_enter Tryz.func40, Tryz.ntmps40
 go_wp2_with fail
 with_reducible refine (HI1.out _).mono ?_
 rintro e' w1 ⟨rfl, hb1⟩
 have HB1 := Lib.hid (HB.out.trans (hb1.mono HB.out.size))
 have HE1 := Lib.hid (HE.out.below hb1 HE.out.lt)
 have HP1 := Lib.hid (HP.out.below hb1 HP.out.lt)
 clear hb1 HB HE HP
 go_wp2_with fail
 with_reducible refine (HI2.out _).mono ?_
 rintro e' w2 ⟨rfl, hb2⟩
 have HB2 := Lib.hid (HB1.out.trans (hb2.mono HB1.out.size))
 have HE2 := Lib.hid (HE1.out.below hb2 HE1.out.lt)
 have HP2 := Lib.hid (HP1.out.below hb2 HP1.out.lt)
 clear hb2 HB1 HE1 HP1
 have e0 := HE2.out.cell 0
 have e1 := HE2.out.cell 1
 have e2 := HE2.out.cell 2
 have e3 := HE2.out.cell 3
 have e4 := HE2.out.cell 4
 have e5 := HE2.out.cell 5
 have e6 := HE2.out.cell 6
 have le2 := HE2.out.lt
 have lp2 := HP2.out.lt
 have HB3 := Lib.hid (show Below w.heap.size w ((w2.alloc (.cells #[.int .i64 i0.lo.1, .int .i64 i0.lo.2.1, .string i0.lo.2.2, .bool i0.ls, .int .i64 i0.hi.1, .int .i64 i0.hi.2.1, .string i0.hi.2.2, .bool i0.hs, .bool i0.im] 84)).alloc (.cells #[.int .i64 j0.lo.1, .int .i64 j0.lo.2.1, .string j0.lo.2.2, .bool j0.ls, .int .i64 j0.hi.1, .int .i64 j0.hi.2.1, .string j0.hi.2.2, .bool j0.hs, .bool j0.im] 84)) from (HB2.out.trans ((bel_mk w2 _).mono HB2.out.size)).trans ((bel_mk _ _).mono (by have := HB2.out.size; simp only [World.size_alloc]; omega)))
 have HI3 := Lib.hid (show Own ((w2.alloc (.cells #[.int .i64 i0.lo.1, .int .i64 i0.lo.2.1, .string i0.lo.2.2, .bool i0.ls, .int .i64 i0.hi.1, .int .i64 i0.hi.2.1, .string i0.hi.2.2, .bool i0.hs, .bool i0.im] 84)).alloc (.cells #[.int .i64 j0.lo.1, .int .i64 j0.lo.2.1, .string j0.lo.2.2, .bool j0.ls, .int .i64 j0.hi.1, .int .i64 j0.hi.2.1, .string j0.hi.2.2, .bool j0.hs, .bool j0.im] 84)) w2.heap.size 84 #[.int .i64 i0.lo.1, .int .i64 i0.lo.2.1, .string i0.lo.2.2, .bool i0.ls, .int .i64 i0.hi.1, .int .i64 i0.hi.2.1, .string i0.hi.2.2, .bool i0.hs, .bool i0.im] from (Own.new w2 _ _).alloc _)
 have HJ3 := Lib.hid (show Own ((w2.alloc (.cells #[.int .i64 i0.lo.1, .int .i64 i0.lo.2.1, .string i0.lo.2.2, .bool i0.ls, .int .i64 i0.hi.1, .int .i64 i0.hi.2.1, .string i0.hi.2.2, .bool i0.hs, .bool i0.im] 84)).alloc (.cells #[.int .i64 j0.lo.1, .int .i64 j0.lo.2.1, .string j0.lo.2.2, .bool j0.ls, .int .i64 j0.hi.1, .int .i64 j0.hi.2.1, .string j0.hi.2.2, .bool j0.hs, .bool j0.im] 84)) (w2.heap.size + 1) 84 #[.int .i64 j0.lo.1, .int .i64 j0.lo.2.1, .string j0.lo.2.2, .bool j0.ls, .int .i64 j0.hi.1, .int .i64 j0.hi.2.1, .string j0.hi.2.2, .bool j0.hs, .bool j0.im] from Va.own_two _)
 have HP3 := Lib.hid (show Own ((w2.alloc (.cells #[.int .i64 i0.lo.1, .int .i64 i0.lo.2.1, .string i0.lo.2.2, .bool i0.ls, .int .i64 i0.hi.1, .int .i64 i0.hi.2.1, .string i0.hi.2.2, .bool i0.hs, .bool i0.im] 84)).alloc (.cells #[.int .i64 j0.lo.1, .int .i64 j0.lo.2.1, .string j0.lo.2.2, .bool j0.ls, .int .i64 j0.hi.1, .int .i64 j0.hi.2.1, .string j0.hi.2.2, .bool j0.hs, .bool j0.im] 84)) (w.heap.size + 1) _ _ from (HP2.out.alloc _).alloc _)
 go_wp2_with fail
 with_reducible refine (HC.out _ HB3.out).mono ?_
 rintro e' w3 ⟨v, rfl, hrd, hb3⟩
 have HW := Lib.hid (show WinI w w3 w2.heap.size v zs ((onC (zs.take 0) f).foldl narI i0) ((onC (zs.take 0) t).foldl narI j0) from ⟨HI3.out.below hb3 HI3.out.lt, HJ3.out.below hb3 HJ3.out.lt, HP3.out.below hb3 HP3.out.lt, lp2, hrd.more (Nat.le_refl _) (by simp only [World.size_alloc]; omega), HB3.out.trans (hb3.mono HB3.out.size)⟩)
 obtain ⟨Av, cv, rfl, hzl, _⟩ := hrd
 clear hb3 HI3 HJ3 HP3 HB3 e0 e1 e2 e3 e4 e5 e6 le2 HE2 HP2 HB2
 generalize w2.heap.size = g8 at *
 go_wp2_with fail
 go_loopw [19] (fun i wr => ∃ k : Nat, k ≤ zs.length ∧ i = .int .i64 k ∧ Hid (WinI w wr g8 (.slice Av zs.length cv) zs ((onC (zs.take k) f).foldl narI i0) ((onC (zs.take k) t).foldl narI j0))) (fun i _ => zs.length - (intOf i).toNat)
 case atStart => exact ⟨0, Nat.zero_le _, rfl, HW⟩
 case round =>
  clear HW
  obtain ⟨k, hk, rfl, HW⟩ := hrel
  by_cases hlt : k < zs.length
  ·have hki : (k : Int) < zs.length := by omega
   have hzk := List.getElem?_eq_getElem hlt
   have hnf := nar_take zs k _ f i0 hzk
   have hnt := nar_take zs k _ t j0 hzk
   have hvz := HV.out _ (List.getElem_mem hlt)
   obtain ⟨ad, cz, hsl, _, hab, y0, y1, y2, y3, y4⟩ := HW.out.2.2.2.2.1.at k _ hzk
   injection hsl with hs1 hs2 hs3
   subst hs1 hs3
   generalize zs[k] = z at *
   have HN := Lib.hid (fun i W => show Calls Tryz.prog 79 #[.agg #[.int .i64 i.lo.1, .int .i64 i.lo.2.1, .string i.lo.2.2, .bool i.ls, .int .i64 i.hi.1, .int .i64 i.hi.2.1, .string i.hi.2.2, .bool i.hs, .bool i.im], .agg #[.int .i64 z.op, .int .i64 z.col, .int .i64 z.v.1, .int .i64 z.v.2.1, .string z.v.2.2]] W fun e w' => e = .returned (.agg #[.int .i64 (narI i z).lo.1, .int .i64 (narI i z).lo.2.1, .string (narI i z).lo.2.2, .bool (narI i z).ls, .int .i64 (narI i z).hi.1, .int .i64 (narI i z).hi.2.1, .string (narI i z).hi.2.2, .bool (narI i z).hs, .bool (narI i z).im]) ∧ Below W.heap.size W w' from pNar_any i z hvz W)
   have HNF := Lib.hid hnf
   have HNT := Lib.hid hnt
   have b5 := bel_mk wr (.cells #[.int .i64 z.op, .int .i64 z.col, .int .i64 z.v.1, .int .i64 z.v.2.1, .string z.v.2.2] 64)
   have HZ := Lib.hid (Own.new wr 64 #[.int .i64 z.op, .int .i64 z.col, .int .i64 z.v.1, .int .i64 z.v.2.1, .string z.v.2.2])
   have HW5 := Lib.hid (HW.out.below b5)
   clear hnf hnt hvz hzk b5 hs2
   generalize (onC (zs.take k) f).foldl narI i0 = i at *
   generalize (onC (zs.take k) t).foldl narI j0 = j at *
   have HNi := Lib.hid (HN.out i)
   have HNj := Lib.hid (HN.out j)
   clear HN
   generalize narI i z = r at *
   generalize narI j z = r2 at *
   have hg8 := HW.out.1.lt
   have hg9 := HW.out.2.1.lt
   have x0 := HW.out.1.cell 0
   have x1 := HW.out.1.cell 1
   have x2 := HW.out.1.cell 2
   have x3 := HW.out.1.cell 3
   have x4 := HW.out.1.cell 4
   have x5 := HW.out.1.cell 5
   have x6 := HW.out.1.cell 6
   have x7 := HW.out.1.cell 7
   have x8 := HW.out.1.cell 8
   have v0 := HW.out.2.1.cell 0
   have v1 := HW.out.2.1.cell 1
   have v2 := HW.out.2.1.cell 2
   have v3 := HW.out.2.1.cell 3
   have v4 := HW.out.2.1.cell 4
   have v5 := HW.out.2.1.cell 5
   have v6 := HW.out.2.1.cell 6
   have v7 := HW.out.2.1.cell 7
   have v8 := HW.out.2.1.cell 8
   clear HW
   obtain ⟨zo, zc, ⟨zk, zn, zt⟩⟩ := z
   dsimp only at *
   by_cases hf : zc = f
   ·subst hf
    by_cases ht : zc = t
    ·subst ht
     go_wp2_with fail
     with_reducible refine (HNi.out _).mono ?_
     rintro e' w4 ⟨rfl, hb⟩
     have HWw4 := Lib.hid (HW5.out.below hb)
     have HZw4 := Lib.hid (HZ.out.below hb HZ.out.lt)
     clear hb
     have p0 := HWw4.out.1.cell 0
     have p1 := HWw4.out.1.cell 1
     have p2 := HWw4.out.1.cell 2
     have p3 := HWw4.out.1.cell 3
     have p4 := HWw4.out.1.cell 4
     have p5 := HWw4.out.1.cell 5
     have p6 := HWw4.out.1.cell 6
     have p7 := HWw4.out.1.cell 7
     have p8 := HWw4.out.1.cell 8
     have fp0 := HWw4.out.1.free 0
     have fp1 := HWw4.out.1.free 1
     have fp2 := HWw4.out.1.free 2
     have fp3 := HWw4.out.1.free 3
     have fp4 := HWw4.out.1.free 4
     have fp5 := HWw4.out.1.free 5
     have fp6 := HWw4.out.1.free 6
     have fp7 := HWw4.out.1.free 7
     have fp8 := HWw4.out.1.free 8
     have q0 := HZw4.out.cell 0
     have q1 := HZw4.out.cell 1
     have q2 := HZw4.out.cell 2
     have q3 := HZw4.out.cell 3
     have q4 := HZw4.out.cell 4
     have s0 := HWw4.out.2.1.cell 0
     have s1 := HWw4.out.2.1.cell 1
     have s2 := HWw4.out.2.1.cell 2
     have s3 := HWw4.out.2.1.cell 3
     have s4 := HWw4.out.2.1.cell 4
     have s5 := HWw4.out.2.1.cell 5
     have s6 := HWw4.out.2.1.cell 6
     have s7 := HWw4.out.2.1.cell 7
     have s8 := HWw4.out.2.1.cell 8
     have HW6 := Lib.hid (winI_lo r HWw4.out)
     have HZ6 := Lib.hid (((((((((HZw4.out.far (p := ⟨g8, 0, none⟩) (by show wr.heap.size ≠ g8; omega) (.int .i64 r.lo.1)).far (p := ⟨g8, 1, none⟩) (by show wr.heap.size ≠ g8; omega) (.int .i64 r.lo.2.1)).far (p := ⟨g8, 2, none⟩) (by show wr.heap.size ≠ g8; omega) (.string r.lo.2.2)).far (p := ⟨g8, 3, none⟩) (by show wr.heap.size ≠ g8; omega) (.bool r.ls)).far (p := ⟨g8, 4, none⟩) (by show wr.heap.size ≠ g8; omega) (.int .i64 r.hi.1)).far (p := ⟨g8, 5, none⟩) (by show wr.heap.size ≠ g8; omega) (.int .i64 r.hi.2.1)).far (p := ⟨g8, 6, none⟩) (by show wr.heap.size ≠ g8; omega) (.string r.hi.2.2)).far (p := ⟨g8, 7, none⟩) (by show wr.heap.size ≠ g8; omega) (.bool r.hs)).far (p := ⟨g8, 8, none⟩) (by show wr.heap.size ≠ g8; omega) (.bool r.im))
     go_wp2_with fail
     with_reducible refine (HNj.out _).mono ?_
     rintro e' w5 ⟨rfl, hb⟩
     have HWw5 := Lib.hid (HW6.out.below hb)
     have HZw5 := Lib.hid (HZ6.out.below hb HZ6.out.lt)
     clear hb
     clear p0 fp0 s0 p1 fp1 s1 p2 fp2 s2 p3 fp3 s3 p4 fp4 s4 p5 fp5 s5 p6 fp6 s6 p7 fp7 s7 p8 fp8 s8
     have p0 := HWw5.out.2.1.cell 0
     have p1 := HWw5.out.2.1.cell 1
     have p2 := HWw5.out.2.1.cell 2
     have p3 := HWw5.out.2.1.cell 3
     have p4 := HWw5.out.2.1.cell 4
     have p5 := HWw5.out.2.1.cell 5
     have p6 := HWw5.out.2.1.cell 6
     have p7 := HWw5.out.2.1.cell 7
     have p8 := HWw5.out.2.1.cell 8
     have fp0 := HWw5.out.2.1.free 0
     have fp1 := HWw5.out.2.1.free 1
     have fp2 := HWw5.out.2.1.free 2
     have fp3 := HWw5.out.2.1.free 3
     have fp4 := HWw5.out.2.1.free 4
     have fp5 := HWw5.out.2.1.free 5
     have fp6 := HWw5.out.2.1.free 6
     have fp7 := HWw5.out.2.1.free 7
     have fp8 := HWw5.out.2.1.free 8
     go_wp2
     have HWF := Lib.hid (winI_hi r2 HWw5.out)
     go_roundw
     case rel => exact ⟨k + 1, by omega, by go_num, Lib.hid (by rw [HNF.out, HNT.out, if_pos trivial, if_pos trivial]; exact HWF.out)⟩
     case measure => simp [intOf]; omega
    ·have htb : (zc == t) = false := by rw [beq_eq_false_iff_ne]; exact ht
     go_wp2_with fail
     with_reducible refine (HNi.out _).mono ?_
     rintro e' w4 ⟨rfl, hb⟩
     have HWw4 := Lib.hid (HW5.out.below hb)
     have HZw4 := Lib.hid (HZ.out.below hb HZ.out.lt)
     clear hb
     have p0 := HWw4.out.1.cell 0
     have p1 := HWw4.out.1.cell 1
     have p2 := HWw4.out.1.cell 2
     have p3 := HWw4.out.1.cell 3
     have p4 := HWw4.out.1.cell 4
     have p5 := HWw4.out.1.cell 5
     have p6 := HWw4.out.1.cell 6
     have p7 := HWw4.out.1.cell 7
     have p8 := HWw4.out.1.cell 8
     have fp0 := HWw4.out.1.free 0
     have fp1 := HWw4.out.1.free 1
     have fp2 := HWw4.out.1.free 2
     have fp3 := HWw4.out.1.free 3
     have fp4 := HWw4.out.1.free 4
     have fp5 := HWw4.out.1.free 5
     have fp6 := HWw4.out.1.free 6
     have fp7 := HWw4.out.1.free 7
     have fp8 := HWw4.out.1.free 8
     have q0 := HZw4.out.cell 0
     have q1 := HZw4.out.cell 1
     have q2 := HZw4.out.cell 2
     have q3 := HZw4.out.cell 3
     have q4 := HZw4.out.cell 4
     go_wp2
     have HWF := Lib.hid (winI_lo r HWw4.out)
     go_roundw
     case rel => exact ⟨k + 1, by omega, by go_num, Lib.hid (by rw [HNF.out, HNT.out, if_pos trivial, if_neg ht]; exact HWF.out)⟩
     case measure => simp [intOf]; omega
   ·have hfb : (zc == f) = false := by rw [beq_eq_false_iff_ne]; exact hf
    by_cases ht : zc = t
    ·subst ht
     go_wp2_with fail
     with_reducible refine (HNj.out _).mono ?_
     rintro e' w4 ⟨rfl, hb⟩
     have HWw4 := Lib.hid (HW5.out.below hb)
     have HZw4 := Lib.hid (HZ.out.below hb HZ.out.lt)
     clear hb
     have p0 := HWw4.out.2.1.cell 0
     have p1 := HWw4.out.2.1.cell 1
     have p2 := HWw4.out.2.1.cell 2
     have p3 := HWw4.out.2.1.cell 3
     have p4 := HWw4.out.2.1.cell 4
     have p5 := HWw4.out.2.1.cell 5
     have p6 := HWw4.out.2.1.cell 6
     have p7 := HWw4.out.2.1.cell 7
     have p8 := HWw4.out.2.1.cell 8
     have fp0 := HWw4.out.2.1.free 0
     have fp1 := HWw4.out.2.1.free 1
     have fp2 := HWw4.out.2.1.free 2
     have fp3 := HWw4.out.2.1.free 3
     have fp4 := HWw4.out.2.1.free 4
     have fp5 := HWw4.out.2.1.free 5
     have fp6 := HWw4.out.2.1.free 6
     have fp7 := HWw4.out.2.1.free 7
     have fp8 := HWw4.out.2.1.free 8
     go_wp2
     have HWF := Lib.hid (winI_hi r2 HWw4.out)
     go_roundw
     case rel => exact ⟨k + 1, by omega, by go_num, Lib.hid (by rw [HNF.out, HNT.out, if_neg hf, if_pos trivial]; exact HWF.out)⟩
     case measure => simp [intOf]; omega
    ·have htb : (zc == t) = false := by rw [beq_eq_false_iff_ne]; exact ht
     go_wp2
     have HWF := HW5
     go_roundw
     case rel => exact ⟨k + 1, by omega, by go_num, Lib.hid (by rw [HNF.out, HNT.out, if_neg hf, if_neg ht]; exact HWF.out)⟩
     case measure => simp [intOf]; omega
  ·have hki : ¬ (k : Int) < zs.length := by omega
   have HWE := Lib.hid (show WinI w wr g8 (.slice Av zs.length cv) zs ((onC zs f).foldl narI i0) ((onC zs t).foldl narI j0) from by have h := HW.out; rwa [List.take_of_length_le (by omega)] at h)
   clear HW
   obtain ⟨i, hi⟩ : ∃ i, (onC zs f).foldl narI i0 = i := ⟨_, rfl⟩
   obtain ⟨j, hj⟩ : ∃ j, (onC zs t).foldl narI j0 = j := ⟨_, rfl⟩
   rw [hi, hj] at HWE
   have HIi := Lib.hid hi
   have HIj := Lib.hid hj
   clear hi hj
   have hg8 := HWE.out.1.lt
   have hg9 := HWE.out.2.1.lt
   have hgp := HWE.out.2.2.1.lt
   have b6 : Below wr.heap.size wr ((wr.alloc (.cells #[.int .i64 i.lo.2.1, .int .i64 j.hi.2.1] 55)).alloc (.cells #[.int .i64 i.hi.2.1, .int .i64 j.lo.2.1] 55)) := (bel_mk wr _).trans ((bel_mk _ _).mono (by simp))
   have HW7 := Lib.hid (HWE.out.below b6)
   have HA := Lib.hid (show Own ((wr.alloc (.cells #[.int .i64 i.lo.2.1, .int .i64 j.hi.2.1] 55)).alloc (.cells #[.int .i64 i.hi.2.1, .int .i64 j.lo.2.1] 55)) wr.heap.size 55 #[.int .i64 i.lo.2.1, .int .i64 j.hi.2.1] from (Own.new wr _ _).alloc _)
   have HD := Lib.hid (show Own ((wr.alloc (.cells #[.int .i64 i.lo.2.1, .int .i64 j.hi.2.1] 55)).alloc (.cells #[.int .i64 i.hi.2.1, .int .i64 j.lo.2.1] 55)) (wr.heap.size + 1) 55 #[.int .i64 i.hi.2.1, .int .i64 j.lo.2.1] from Va.own_two _)
   have HEI := Lib.hid (fun W => show Calls Tryz.prog 80 #[.agg #[.int .i64 i.lo.1, .int .i64 i.lo.2.1, .string i.lo.2.2, .bool i.ls, .int .i64 i.hi.1, .int .i64 i.hi.2.1, .string i.hi.2.2, .bool i.hs, .bool i.im]] W fun e w' => e = .returned (.bool (empI i)) ∧ Below W.heap.size W w' from pEmp_any i W)
   have HEJ := Lib.hid (fun W => show Calls Tryz.prog 80 #[.agg #[.int .i64 j.lo.1, .int .i64 j.lo.2.1, .string j.lo.2.2, .bool j.ls, .int .i64 j.hi.1, .int .i64 j.hi.2.1, .string j.hi.2.2, .bool j.hs, .bool j.im]] W fun e w' => e = .returned (.bool (empI j)) ∧ Below W.heap.size W w' from pEmp_any j W)
   have HVA := Lib.hid (fun W => perValid_any i.lo.2.1 j.hi.2.1 W)
   have HVD := Lib.hid (fun W => perValid_any i.hi.2.1 j.lo.2.1 W)
   have x0 := HWE.out.1.cell 0
   have x1 := HWE.out.1.cell 1
   have x2 := HWE.out.1.cell 2
   have x3 := HWE.out.1.cell 3
   have x4 := HWE.out.1.cell 4
   have x5 := HWE.out.1.cell 5
   have x6 := HWE.out.1.cell 6
   have x7 := HWE.out.1.cell 7
   have x8 := HWE.out.1.cell 8
   have v0 := HWE.out.2.1.cell 0
   have v1 := HWE.out.2.1.cell 1
   have v2 := HWE.out.2.1.cell 2
   have v3 := HWE.out.2.1.cell 3
   have v4 := HWE.out.2.1.cell 4
   have v5 := HWE.out.2.1.cell 5
   have v6 := HWE.out.2.1.cell 6
   have v7 := HWE.out.2.1.cell 7
   have v8 := HWE.out.2.1.cell 8
   clear HWE b6
   cases hei : empI i
   ·cases hej : empI j
    ·cases hva : vld i.lo.2.1 j.hi.2.1
     ·rw [hei] at HEI
      rw [hej] at HEJ
      rw [hva] at HVA
      go_wp2_with fail
      with_reducible refine (HEI.out _).mono ?_
      rintro e' wk1 ⟨rfl, hb⟩
      replace HW7 := Lib.hid (HW7.out.below hb)
      replace HA := Lib.hid (HA.out.below hb HA.out.lt)
      replace HD := Lib.hid (HD.out.below hb HD.out.lt)
      clear hb
      clear x0 v0 x1 v1 x2 v2 x3 v3 x4 v4 x5 v5 x6 v6 x7 v7 x8 v8
      have s0 := HW7.out.2.1.cell 0
      have s1 := HW7.out.2.1.cell 1
      have s2 := HW7.out.2.1.cell 2
      have s3 := HW7.out.2.1.cell 3
      have s4 := HW7.out.2.1.cell 4
      have s5 := HW7.out.2.1.cell 5
      have s6 := HW7.out.2.1.cell 6
      have s7 := HW7.out.2.1.cell 7
      have s8 := HW7.out.2.1.cell 8
      go_wp2_with fail
      with_reducible refine (HEJ.out _).mono ?_
      rintro e' wk2 ⟨rfl, hb⟩
      replace HW7 := Lib.hid (HW7.out.below hb)
      replace HA := Lib.hid (HA.out.below hb HA.out.lt)
      replace HD := Lib.hid (HD.out.below hb HD.out.lt)
      clear hb
      have a0 := HA.out.cell 0
      have a1 := HA.out.cell 1
      go_wp2_with fail
      with_reducible refine (HVA.out _).mono ?_
      rintro e' wk3 ⟨rfl, hb⟩
      replace HW7 := Lib.hid (HW7.out.below hb)
      replace HA := Lib.hid (HA.out.below hb HA.out.lt)
      replace HD := Lib.hid (HD.out.below hb HD.out.lt)
      clear hb
      have pp0 := HW7.out.2.2.1.cell 0
      have pp1 := HW7.out.2.2.1.cell 1
      have fp0 := HW7.out.2.2.1.free 0
      have fp1 := HW7.out.2.2.1.free 1
      go_wp2
      have hx := ((HW7.out.2.2.1.store 0 (.int .i64 0)).store 1 (.int .i64 0))
      simp only [List.setIfInBounds_toArray, List.set_cons_zero, List.set_cons_succ] at hx
      (try simp only [Exit.inBlock, Exit.then]); refine bodyPost_ret_by (Va.results_cell_row2 (by rfl) _ _ (w.heap.size + 1) _ (by rfl) (load_per hx)) ?_ ?_; (focus rfl)
      refine ⟨?_, ((HW7.out.2.2.2.2.2.sc (w.heap.size + 1) 0 _).sc (w.heap.size + 1) 1 _)⟩
      rw [HIi.out, HIj.out]
      rw [show winB i j = ((0, 0), false) from if_pos (.inr (.inr hva))]
      try rfl
     ·cases hvd : vld i.hi.2.1 j.lo.2.1
      ·rw [hei] at HEI
       rw [hej] at HEJ
       rw [hva] at HVA
       rw [hvd] at HVD
       go_wp2_with fail
       with_reducible refine (HEI.out _).mono ?_
       rintro e' wk4 ⟨rfl, hb⟩
       replace HW7 := Lib.hid (HW7.out.below hb)
       replace HA := Lib.hid (HA.out.below hb HA.out.lt)
       replace HD := Lib.hid (HD.out.below hb HD.out.lt)
       clear hb
       clear x0 v0 x1 v1 x2 v2 x3 v3 x4 v4 x5 v5 x6 v6 x7 v7 x8 v8
       have s0 := HW7.out.2.1.cell 0
       have s1 := HW7.out.2.1.cell 1
       have s2 := HW7.out.2.1.cell 2
       have s3 := HW7.out.2.1.cell 3
       have s4 := HW7.out.2.1.cell 4
       have s5 := HW7.out.2.1.cell 5
       have s6 := HW7.out.2.1.cell 6
       have s7 := HW7.out.2.1.cell 7
       have s8 := HW7.out.2.1.cell 8
       go_wp2_with fail
       with_reducible refine (HEJ.out _).mono ?_
       rintro e' wk5 ⟨rfl, hb⟩
       replace HW7 := Lib.hid (HW7.out.below hb)
       replace HA := Lib.hid (HA.out.below hb HA.out.lt)
       replace HD := Lib.hid (HD.out.below hb HD.out.lt)
       clear hb
       have a0 := HA.out.cell 0
       have a1 := HA.out.cell 1
       go_wp2_with fail
       with_reducible refine (HVA.out _).mono ?_
       rintro e' wk6 ⟨rfl, hb⟩
       replace HW7 := Lib.hid (HW7.out.below hb)
       replace HA := Lib.hid (HA.out.below hb HA.out.lt)
       replace HD := Lib.hid (HD.out.below hb HD.out.lt)
       clear hb
       have d0 := HD.out.cell 0
       have d1 := HD.out.cell 1
       go_wp2_with fail
       with_reducible refine (HVD.out _).mono ?_
       rintro e' wk7 ⟨rfl, hb⟩
       replace HW7 := Lib.hid (HW7.out.below hb)
       replace HA := Lib.hid (HA.out.below hb HA.out.lt)
       replace HD := Lib.hid (HD.out.below hb HD.out.lt)
       clear hb
       have a0 := HA.out.cell 0
       have a1 := HA.out.cell 1
       have pp0 := HW7.out.2.2.1.cell 0
       have pp1 := HW7.out.2.2.1.cell 1
       have fp0 := HW7.out.2.2.1.free 0
       have fp1 := HW7.out.2.2.1.free 1
       go_wp2
       have hx := ((HW7.out.2.2.1.store 0 (.int .i64 i.lo.2.1)).store 1 (.int .i64 j.hi.2.1))
       simp only [List.setIfInBounds_toArray, List.set_cons_zero, List.set_cons_succ] at hx
       (try simp only [Exit.inBlock, Exit.then]); refine bodyPost_ret_by (Va.results_cell_row2 (by rfl) _ _ (w.heap.size + 1) _ (by rfl) (load_per hx)) ?_ ?_; (focus rfl)
       refine ⟨?_, ((HW7.out.2.2.2.2.2.sc (w.heap.size + 1) 0 _).sc (w.heap.size + 1) 1 _)⟩
       rw [HIi.out, HIj.out]
       rw [show winB i j = ((i.lo.2.1, j.hi.2.1), true) from (if_neg (fun h => by rcases h with h | h | h; (rw [hei] at h; cases h); (rw [hej] at h; cases h); (exact absurd (hva.symm.trans h) (by simp)))).trans (if_neg (fun h => absurd (hvd.symm.trans h) (by simp)))]
       try rfl
      ·rw [hei] at HEI
       rw [hej] at HEJ
       rw [hva] at HVA
       rw [hvd] at HVD
       go_wp2_with fail
       with_reducible refine (HEI.out _).mono ?_
       rintro e' wk8 ⟨rfl, hb⟩
       replace HW7 := Lib.hid (HW7.out.below hb)
       replace HA := Lib.hid (HA.out.below hb HA.out.lt)
       replace HD := Lib.hid (HD.out.below hb HD.out.lt)
       clear hb
       clear x0 v0 x1 v1 x2 v2 x3 v3 x4 v4 x5 v5 x6 v6 x7 v7 x8 v8
       have s0 := HW7.out.2.1.cell 0
       have s1 := HW7.out.2.1.cell 1
       have s2 := HW7.out.2.1.cell 2
       have s3 := HW7.out.2.1.cell 3
       have s4 := HW7.out.2.1.cell 4
       have s5 := HW7.out.2.1.cell 5
       have s6 := HW7.out.2.1.cell 6
       have s7 := HW7.out.2.1.cell 7
       have s8 := HW7.out.2.1.cell 8
       go_wp2_with fail
       with_reducible refine (HEJ.out _).mono ?_
       rintro e' wk9 ⟨rfl, hb⟩
       replace HW7 := Lib.hid (HW7.out.below hb)
       replace HA := Lib.hid (HA.out.below hb HA.out.lt)
       replace HD := Lib.hid (HD.out.below hb HD.out.lt)
       clear hb
       have a0 := HA.out.cell 0
       have a1 := HA.out.cell 1
       go_wp2_with fail
       with_reducible refine (HVA.out _).mono ?_
       rintro e' wk10 ⟨rfl, hb⟩
       replace HW7 := Lib.hid (HW7.out.below hb)
       replace HA := Lib.hid (HA.out.below hb HA.out.lt)
       replace HD := Lib.hid (HD.out.below hb HD.out.lt)
       clear hb
       have d0 := HD.out.cell 0
       have d1 := HD.out.cell 1
       go_wp2_with fail
       with_reducible refine (HVD.out _).mono ?_
       rintro e' wk11 ⟨rfl, hb⟩
       replace HW7 := Lib.hid (HW7.out.below hb)
       replace HA := Lib.hid (HA.out.below hb HA.out.lt)
       replace HD := Lib.hid (HD.out.below hb HD.out.lt)
       clear hb
       have d0 := HD.out.cell 0
       have d1 := HD.out.cell 1
       have pp0 := HW7.out.2.2.1.cell 0
       have pp1 := HW7.out.2.2.1.cell 1
       have fp0 := HW7.out.2.2.1.free 0
       have fp1 := HW7.out.2.2.1.free 1
       go_wp2
       have hx := ((HW7.out.2.2.1.store 0 (.int .i64 i.hi.2.1)).store 1 (.int .i64 j.lo.2.1))
       simp only [List.setIfInBounds_toArray, List.set_cons_zero, List.set_cons_succ] at hx
       (try simp only [Exit.inBlock, Exit.then]); refine bodyPost_ret_by (Va.results_cell_row2 (by rfl) _ _ (w.heap.size + 1) _ (by rfl) (load_per hx)) ?_ ?_; (focus rfl)
       refine ⟨?_, ((HW7.out.2.2.2.2.2.sc (w.heap.size + 1) 0 _).sc (w.heap.size + 1) 1 _)⟩
       rw [HIi.out, HIj.out]
       rw [show winB i j = ((i.hi.2.1, j.lo.2.1), true) from (if_neg (fun h => by rcases h with h | h | h; (rw [hei] at h; cases h); (rw [hej] at h; cases h); (exact absurd (hva.symm.trans h) (by simp)))).trans (if_pos hvd)]
       try rfl
    ·rw [hei] at HEI
     rw [hej] at HEJ
     go_wp2_with fail
     with_reducible refine (HEI.out _).mono ?_
     rintro e' wk12 ⟨rfl, hb⟩
     replace HW7 := Lib.hid (HW7.out.below hb)
     replace HA := Lib.hid (HA.out.below hb HA.out.lt)
     replace HD := Lib.hid (HD.out.below hb HD.out.lt)
     clear hb
     clear x0 v0 x1 v1 x2 v2 x3 v3 x4 v4 x5 v5 x6 v6 x7 v7 x8 v8
     have s0 := HW7.out.2.1.cell 0
     have s1 := HW7.out.2.1.cell 1
     have s2 := HW7.out.2.1.cell 2
     have s3 := HW7.out.2.1.cell 3
     have s4 := HW7.out.2.1.cell 4
     have s5 := HW7.out.2.1.cell 5
     have s6 := HW7.out.2.1.cell 6
     have s7 := HW7.out.2.1.cell 7
     have s8 := HW7.out.2.1.cell 8
     go_wp2_with fail
     with_reducible refine (HEJ.out _).mono ?_
     rintro e' wk13 ⟨rfl, hb⟩
     replace HW7 := Lib.hid (HW7.out.below hb)
     replace HA := Lib.hid (HA.out.below hb HA.out.lt)
     replace HD := Lib.hid (HD.out.below hb HD.out.lt)
     clear hb
     have pp0 := HW7.out.2.2.1.cell 0
     have pp1 := HW7.out.2.2.1.cell 1
     have fp0 := HW7.out.2.2.1.free 0
     have fp1 := HW7.out.2.2.1.free 1
     go_wp2
     have hx := ((HW7.out.2.2.1.store 0 (.int .i64 0)).store 1 (.int .i64 0))
     simp only [List.setIfInBounds_toArray, List.set_cons_zero, List.set_cons_succ] at hx
     (try simp only [Exit.inBlock, Exit.then]); refine bodyPost_ret_by (Va.results_cell_row2 (by rfl) _ _ (w.heap.size + 1) _ (by rfl) (load_per hx)) ?_ ?_; (focus rfl)
     refine ⟨?_, ((HW7.out.2.2.2.2.2.sc (w.heap.size + 1) 0 _).sc (w.heap.size + 1) 1 _)⟩
     rw [HIi.out, HIj.out]
     rw [show winB i j = ((0, 0), false) from if_pos (.inr (.inl hej))]
     try rfl
   ·rw [hei] at HEI
    go_wp2_with fail
    with_reducible refine (HEI.out _).mono ?_
    rintro e' wk14 ⟨rfl, hb⟩
    replace HW7 := Lib.hid (HW7.out.below hb)
    replace HA := Lib.hid (HA.out.below hb HA.out.lt)
    replace HD := Lib.hid (HD.out.below hb HD.out.lt)
    clear hb
    clear x0 v0 x1 v1 x2 v2 x3 v3 x4 v4 x5 v5 x6 v6 x7 v7 x8 v8
    have pp0 := HW7.out.2.2.1.cell 0
    have pp1 := HW7.out.2.2.1.cell 1
    have fp0 := HW7.out.2.2.1.free 0
    have fp1 := HW7.out.2.2.1.free 1
    go_wp2
    have hx := ((HW7.out.2.2.1.store 0 (.int .i64 0)).store 1 (.int .i64 0))
    simp only [List.setIfInBounds_toArray, List.set_cons_zero, List.set_cons_succ] at hx
    (try simp only [Exit.inBlock, Exit.then]); refine bodyPost_ret_by (Va.results_cell_row2 (by rfl) _ _ (w.heap.size + 1) _ (by rfl) (load_per hx)) ?_ ?_; (focus rfl)
    refine ⟨?_, ((HW7.out.2.2.2.2.2.sc (w.heap.size + 1) 0 _).sc (w.heap.size + 1) 1 _)⟩
    rw [HIi.out, HIj.out]
    rw [show winB i j = ((0, 0), false) from if_pos (.inl hei)]
    try rfl
end Go.Proofs.YtdhemhmgenhmaaaGreat
