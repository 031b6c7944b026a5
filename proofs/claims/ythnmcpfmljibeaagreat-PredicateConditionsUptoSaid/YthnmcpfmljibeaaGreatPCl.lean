import Derived.Test.YthnmcpfmljibeaaGreatPX
import Derived.Test.YthnmcpfmljibeaaGreatPRh
import Derived.Test.YthnmcpfmljibeaaGreatPEd
import Derived.Test.YthnmcpfmljibeaaGreatPAw
import Derived.WalkKit
import Derived.WalkSpells
import Derived.WalkLawsBesides
import Derived.Deep.QuietTactic
import Derived.BigQuiet
import Derived.Handy
import Derived.Lib.Hide
/-
  The walk of the statement PredicateConditions. Conditions: a bounded depth, few conjuncts.
-/
namespace Go.Proofs.YthnmcpfmljibeaaGreat
set_option maxRecDepth 100000
set_option linter.unusedVariables false
set_option linter.unusedSimpArgs false
open Go.RowKit

theorem cnd_neq (a b c d : Int) (s : ByteArray) (w : World) : (binOp .neq 42 (.agg #[.int .i64 a, .int .i64 b, .int .i64 c, .int .i64 d, .string s]) (.agg #[.int .i64 a, .int .i64 b, .int .i64 c, .int .i64 d, .string s])).run Tryz.prog w = .ok (.bool false) w := by
  rw [run_neq_struct, run_equalIn_struct w 9999 42 _ _ (by kernel_rfl) (by kernel_rfl)]
  simp [Program.fieldsOf, Op.eqFields, Tryz.underlying42, Tryz.underlying23, Tryz.underlying3, Tryz.underlying9, part, isAgg, go_sem]
theorem prq_neq (a b : Int) (w : World) : (binOp .neq 46 (.agg #[.int .i64 a, .int .i64 b]) (.agg #[.int .i64 a, .int .i64 b])).run Tryz.prog w = .ok (.bool false) w := by
  rw [run_neq_struct, run_equalIn_struct w 9999 46 _ _ (by kernel_rfl) (by kernel_rfl)]
  simp [Program.fieldsOf, Op.eqFields, Tryz.underlying46, Tryz.underlying3, part, isAgg, go_sem]
theorem RdU.at {w : World} {L B : Nat} {v : Value} {zs : List Pq} (h : RdU w L B v zs) (k : Nat) (z : Pq) (hk : zs[k]? = some z) : ∃ (ad : Addr) (c : Nat), v = .slice (some ad) zs.length c ∧ L ≤ ad.block ∧ ad.block < B ∧
    w.cell? (ad.add (k * 2)) = some (.int .i64 z.1) ∧ w.cell? ⟨(ad.add (k * 2)).block, (ad.add (k * 2)).off + 1, none⟩ = some (.int .i64 z.2) := by
  obtain ⟨A, c, h1, _, h2⟩ := h
  obtain ⟨ad, rfl, g1, g2, c0, c1⟩ := h2 k z hk
  have ho : (ad.add (k * 2)).off = ad.off + k * 2 := by unfold Addr.add; split <;> simp_all
  refine ⟨ad, c, h1, g1, g2, c0, ?_⟩
  rw [add_blk, ho]
  exact c1
set_option maxRecDepth 100000 in
set_option maxHeartbeats 6400000 in
theorem law_conditions (d : Nat) (e : Ex) (A : Option Addr) (c : Nat) (split : Int) (w : World) (h : RdE w 0 w.heap.size d (.slice A e.args.length c) e.args) (hl : (conjE d e).length ≤ 1099511627776) :
    Calls Tryz.prog 4 #[exV e (.slice A e.args.length c), .int .i64 split] w fun e' w' => e' = .returned (.bool true) ∧ Below w.heap.size w w' := by
  have T1 := Lib.hid (fun (W : World) (hb : Below w.heap.size w W) => pConds_any d e (.slice A e.args.length c) W 0 (h.step hb (Nat.le_refl _)) hl)
  have T2 := Lib.hid (fun (W : World) (hb : Below w.heap.size w W) => rConds_any d e (.slice A e.args.length c) W 0 (h.step hb (Nat.le_refl _)) hl)
  have T3 := Lib.hid (fun (W : World) (hb : Below w.heap.size w W) => pEqns_any d split e (.slice A e.args.length c) W 0 (h.step hb (Nat.le_refl _)) hl)
  have T4 := Lib.hid (fun (W : World) (hb : Below w.heap.size w W) => rEqns_any d split e (.slice A e.args.length c) W 0 (h.step hb (Nat.le_refl _)) hl)
  generalize (conjE d e).filterMap condE = zs at T1 T2
  generalize (conjE d e).filterMap (eqnE split) = qs at T3 T4
  have b1 := bel_mk w (.cells (exA e (.slice A e.args.length c)) 26)
  have o1 := Own.new w 26 (exA e (.slice A e.args.length c))
  clear h hl
  unfold exA at b1 o1
  unfold exV at T1 T2 T3 T4 ⊢
  have t1 := T1.out _ b1
  have HB := Lib.hid b1
  have HO := Lib.hid o1
  clear b1 o1 T1
  have x0 := HO.out.cell 0
  have x1 := HO.out.cell 1
  have x2 := HO.out.cell 2
  have x3 := HO.out.cell 3
  have x4 := HO.out.cell 4
  have x5 := HO.out.cell 5
  have x6 := HO.out.cell 6
  go_enter Tryz.func4, Tryz.ntmps4
  go_wp2_with fail
  with_reducible refine t1.mono ?_
  rintro e1 w1 ⟨v1, rfl, hr1, hb1⟩
  clear t1 x0 x1 x2 x3 x4 x5 x6
  replace HB := Lib.hid (HB.out.trans (hb1.mono HB.out.size))
  replace HO := Lib.hid (HO.out.below hb1 HO.out.lt)
  have HR1 := Lib.hid hr1
  obtain ⟨A1, c1, rfl, hzl, _⟩ := hr1
  clear hb1
  have t2 := T2.out _ HB.out
  clear T2
  have x0 := HO.out.cell 0
  have x1 := HO.out.cell 1
  have x2 := HO.out.cell 2
  have x3 := HO.out.cell 3
  have x4 := HO.out.cell 4
  have x5 := HO.out.cell 5
  have x6 := HO.out.cell 6
  go_wp2_with fail
  with_reducible refine t2.mono ?_
  rintro e2 w2 ⟨v2, rfl, hr2, hb2⟩
  clear t2 x0 x1 x2 x3 x4 x5 x6
  replace HB := Lib.hid (HB.out.trans (hb2.mono HB.out.size))
  replace HO := Lib.hid (HO.out.below hb2 HO.out.lt)
  replace HR1 := Lib.hid (HR1.out.step hb2 (Nat.le_refl _))
  have HR2 := Lib.hid hr2
  obtain ⟨A2, c2, rfl, _, _⟩ := hr2
  clear hb2
  have hnn : ((zs.length : Int) != zs.length) = false := by simp
  go_wp2_with fail
  go_loopw [22] (fun i wr => ∃ k : Nat, k ≤ zs.length ∧ i = .int .i64 k ∧ Below w2.heap.size w2 wr) (fun i _ => zs.length - (intOf i).toNat)
  case atStart => exact ⟨0, Nat.zero_le _, rfl, Below.refl _ _⟩
  case round =>
    obtain ⟨k, hk, rfl, hbr⟩ := hrel
    have hbz := hbr.size
    by_cases hlt : k < zs.length
    · have hki : (k : Int) < zs.length := by omega
      have hkl : (k : Int) + 1 ≤ 1099511627776 := by omega
      have hzk := List.getElem?_eq_getElem hlt
      obtain ⟨ad, cz, hsl, _, hab, y0, y1, y2, y3, y4⟩ := (HR1.out.at k _ hzk)
      injection hsl with hs1 hs2 hs3
      subst hs1 hs3
      obtain ⟨ad2, cz2, hsl2, _, hab2, z0, z1, z2, z3, z4⟩ := (HR2.out.at k _ hzk)
      injection hsl2 with hs1 hs2 hs3
      subst hs1 hs3
      generalize zs[k] = z at *
      obtain ⟨zo, zc, ⟨zk, zn, zt⟩⟩ := z
      dsimp only at *
      have hab3 : ad.block < wr.heap.size := by omega
      have hab4 : ad2.block < wr.heap.size := by omega
      have f0 := after_cell (W := wr) (by rw [add_blk]; exact hab3) ((hbr.cell (p := ad.add (k * 5)) (by rw [add_blk]; exact hab)).trans y0)
      have f1 := after_cell (W := wr) (a := ⟨(ad.add (k * 5)).block, (ad.add (k * 5)).off + 1, none⟩) (by rw [add_blk]; exact hab3) ((hbr.cell (p := ⟨(ad.add (k * 5)).block, (ad.add (k * 5)).off + 1, none⟩) (by rw [add_blk]; exact hab)).trans y1)
      have f2 := after_cell (W := wr) (a := ⟨(ad.add (k * 5)).block, (ad.add (k * 5)).off + 2, none⟩) (by rw [add_blk]; exact hab3) ((hbr.cell (p := ⟨(ad.add (k * 5)).block, (ad.add (k * 5)).off + 2, none⟩) (by rw [add_blk]; exact hab)).trans y2)
      have f3 := after_cell (W := wr) (a := ⟨(ad.add (k * 5)).block, (ad.add (k * 5)).off + 3, none⟩) (by rw [add_blk]; exact hab3) ((hbr.cell (p := ⟨(ad.add (k * 5)).block, (ad.add (k * 5)).off + 3, none⟩) (by rw [add_blk]; exact hab)).trans y3)
      have f4 := after_cell (W := wr) (a := ⟨(ad.add (k * 5)).block, (ad.add (k * 5)).off + 4, none⟩) (by rw [add_blk]; exact hab3) ((hbr.cell (p := ⟨(ad.add (k * 5)).block, (ad.add (k * 5)).off + 4, none⟩) (by rw [add_blk]; exact hab)).trans y4)
      have g0 := after_cell (W := wr) (by rw [add_blk]; exact hab4) ((hbr.cell (p := ad2.add (k * 5)) (by rw [add_blk]; exact hab2)).trans z0)
      have g1 := after_cell (W := wr) (a := ⟨(ad2.add (k * 5)).block, (ad2.add (k * 5)).off + 1, none⟩) (by rw [add_blk]; exact hab4) ((hbr.cell (p := ⟨(ad2.add (k * 5)).block, (ad2.add (k * 5)).off + 1, none⟩) (by rw [add_blk]; exact hab2)).trans z1)
      have g2 := after_cell (W := wr) (a := ⟨(ad2.add (k * 5)).block, (ad2.add (k * 5)).off + 2, none⟩) (by rw [add_blk]; exact hab4) ((hbr.cell (p := ⟨(ad2.add (k * 5)).block, (ad2.add (k * 5)).off + 2, none⟩) (by rw [add_blk]; exact hab2)).trans z2)
      have g3 := after_cell (W := wr) (a := ⟨(ad2.add (k * 5)).block, (ad2.add (k * 5)).off + 3, none⟩) (by rw [add_blk]; exact hab4) ((hbr.cell (p := ⟨(ad2.add (k * 5)).block, (ad2.add (k * 5)).off + 3, none⟩) (by rw [add_blk]; exact hab2)).trans z3)
      have g4 := after_cell (W := wr) (a := ⟨(ad2.add (k * 5)).block, (ad2.add (k * 5)).off + 4, none⟩) (by rw [add_blk]; exact hab4) ((hbr.cell (p := ⟨(ad2.add (k * 5)).block, (ad2.add (k * 5)).off + 4, none⟩) (by rw [add_blk]; exact hab2)).trans z4)
      have hq := fun W => cnd_neq zo zc zk zn zt W
      clear y0 y1 y2 y3 y4 z0 z1 z2 z3 z4 hzk hs2
      go_wp2
      (refine wp_region_after (by kernel_rfl) (by kernel_rfl) ?_; (repeat (go_big_quiet_step (fail))); refine wpQuiet_nil ?_; intro wq hw0; obtain ⟨⟨wq0, hbq⟩, hw1⟩ := hw0; subst hw1; (try dsimp only))
      go_wp2
      go_roundw
      case rel => exact ⟨k + 1, by omega, by go_num, hbr.trans (hbq.mono hbz)⟩
      case measure => simp [intOf]; omega
    · have hki : ¬ (k : Int) < zs.length := by omega
      replace HB := Lib.hid (HB.out.trans (hbr.mono HB.out.size))
      replace HO := Lib.hid (HO.out.below hbr HO.out.lt)
      clear HR1 HR2 hbr
      have t3 := T3.out _ HB.out
      have x0 := HO.out.cell 0
      have x1 := HO.out.cell 1
      have x2 := HO.out.cell 2
      have x3 := HO.out.cell 3
      have x4 := HO.out.cell 4
      have x5 := HO.out.cell 5
      have x6 := HO.out.cell 6
      go_wp2_with fail
      with_reducible refine t3.mono ?_
      rintro e3 w3 ⟨v3, rfl, hr3, hb3⟩
      clear t3 x0 x1 x2 x3 x4 x5 x6 T3
      replace HB := Lib.hid (HB.out.trans (hb3.mono HB.out.size))
      replace HO := Lib.hid (HO.out.below hb3 HO.out.lt)
      have HR3 := Lib.hid hr3
      obtain ⟨A3, c3, rfl, hql, _⟩ := hr3
      clear hb3
      have t4 := T4.out _ HB.out
      have x0 := HO.out.cell 0
      have x1 := HO.out.cell 1
      have x2 := HO.out.cell 2
      have x3 := HO.out.cell 3
      have x4 := HO.out.cell 4
      have x5 := HO.out.cell 5
      have x6 := HO.out.cell 6
      go_wp2_with fail
      with_reducible refine t4.mono ?_
      rintro e4 w4 ⟨v4, rfl, hr4, hb4⟩
      clear t4 x0 x1 x2 x3 x4 x5 x6 T4
      replace HB := Lib.hid (HB.out.trans (hb4.mono HB.out.size))
      replace HR3 := Lib.hid (HR3.out.step hb4 (Nat.le_refl _))
      have HR4 := Lib.hid hr4
      obtain ⟨A4, c4, rfl, _, _⟩ := hr4
      clear hb4 HO hbz hlt hki hk hnn
      have hnq : ((qs.length : Int) != qs.length) = false := by simp
      go_wp2_with fail
      go_loopw [48] (fun i wx => ∃ k : Nat, k ≤ qs.length ∧ i = .int .i64 k ∧ Below w4.heap.size w4 wx) (fun i _ => qs.length - (intOf i).toNat)
      case atStart => exact ⟨0, Nat.zero_le _, rfl, Below.refl _ _⟩
      case round =>
        obtain ⟨j, hj, rfl, hbr⟩ := hrel
        have hbz := hbr.size
        by_cases hlt : j < qs.length
        · have hki : (j : Int) < qs.length := by omega
          have hkl : (j : Int) + 1 ≤ 1099511627776 := by omega
          have hzk := List.getElem?_eq_getElem hlt
          obtain ⟨ad, cz, hsl, _, hab, y0, y1⟩ := (HR3.out.at j _ hzk)
          injection hsl with hs1 hs2 hs3
          subst hs1 hs3
          obtain ⟨ad2, cz2, hsl2, _, hab2, z0, z1⟩ := (HR4.out.at j _ hzk)
          injection hsl2 with hs1 hs2 hs3
          subst hs1 hs3
          generalize qs[j] = z at *
          obtain ⟨zo, zc⟩ := z
          dsimp only at *
          have hab3 : ad.block < wr.heap.size := by omega
          have hab4 : ad2.block < wr.heap.size := by omega
          have f0 := after_cell (W := wr) (by rw [add_blk]; exact hab3) ((hbr.cell (p := ad.add (j * 2)) (by rw [add_blk]; exact hab)).trans y0)
          have f1 := after_cell (W := wr) (a := ⟨(ad.add (j * 2)).block, (ad.add (j * 2)).off + 1, none⟩) (by rw [add_blk]; exact hab3) ((hbr.cell (p := ⟨(ad.add (j * 2)).block, (ad.add (j * 2)).off + 1, none⟩) (by rw [add_blk]; exact hab)).trans y1)
          have g0 := after_cell (W := wr) (by rw [add_blk]; exact hab4) ((hbr.cell (p := ad2.add (j * 2)) (by rw [add_blk]; exact hab2)).trans z0)
          have g1 := after_cell (W := wr) (a := ⟨(ad2.add (j * 2)).block, (ad2.add (j * 2)).off + 1, none⟩) (by rw [add_blk]; exact hab4) ((hbr.cell (p := ⟨(ad2.add (j * 2)).block, (ad2.add (j * 2)).off + 1, none⟩) (by rw [add_blk]; exact hab2)).trans z1)
          have hq := fun W => prq_neq zo zc W
          clear y0 y1 z0 z1 hzk hs2
          go_wp2
          (refine wp_region_after (by kernel_rfl) (by kernel_rfl) ?_; (repeat (go_big_quiet_step (fail))); refine wpQuiet_nil ?_; intro wq hw0; obtain ⟨⟨wq0, hbq⟩, hw1⟩ := hw0; subst hw1; (try dsimp only))
          go_wp2
          go_roundw
          case rel => exact ⟨j + 1, by omega, by go_num, hbr.trans (hbq.mono hbz)⟩
          case measure => simp [intOf]; omega
        · have hki : ¬ (j : Int) < qs.length := by omega
          replace HB := Lib.hid (HB.out.trans (hbr.mono HB.out.size))
          clear HR3 HR4 hbr
          have t5 := awakeL_any wr
          go_wp2_with fail
          with_reducible refine t5.mono ?_
          rintro e5 w5 ⟨rfl, hb5⟩
          clear t5
          go_wp2
          go_ret
          exact ⟨rfl, HB.out.trans (hb5.mono HB.out.size)⟩
end Go.Proofs.YthnmcpfmljibeaaGreat
