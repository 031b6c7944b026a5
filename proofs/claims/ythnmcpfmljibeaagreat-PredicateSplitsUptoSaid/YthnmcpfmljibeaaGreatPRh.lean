import Derived.Test.YthnmcpfmljibeaaGreatPRa
import Derived.Test.YthnmcpfmljibeaaGreatPRd
import Derived.Test.YthnmcpfmljibeaaGreatPKb
import Derived.WalkKit
import Derived.WalkSpells
import Derived.WalkLawsBesides
import Derived.Deep.QuietTactic
import Derived.BigQuiet
import Derived.Handy
import Derived.Lib.Hide
import Derived.Test.YthnmcpfmljibeaaGreatPX
/-
  Conditions, by the reference. Conditions: lengths, a bounded depth.
-/
namespace Go.Proofs.YthnmcpfmljibeaaGreat
set_option maxRecDepth 100000
set_option linter.unusedVariables false
set_option linter.unusedSimpArgs false
open Go.RowKit

theorem fm_take (zs : List Ex) (k : Nat) (z : Ex) (h : zs[k]? = some z) : (zs.take (k + 1)).filterMap condE = (zs.take k).filterMap condE ++ (condE z).toList := by
  rw [List.take_add_one, h, List.filterMap_append]
  cases hc : condE z <;> simp [hc]
set_option maxRecDepth 100000 in
set_option maxHeartbeats 6400000 in
theorem rConds_any (d : Nat) (e : Ex) (u : Value) (w : World) (L : Nat) (h : RdE w L w.heap.size d u e.args) (hl : (conjE d e).length ≤ 1099511627776) :
    Calls Tryz.prog 17 #[exV e u] w fun e' w' => ∃ v, e' = .returned v ∧ RdQ w' w.heap.size w'.heap.size v ((conjE d e).filterMap condE) ∧ Below w.heap.size w w' := by
  obtain ⟨A, c, rfl, _⟩ := h.slice
  have b1 := bel_mk w (.cells (exA e (.slice A e.args.length c)) 26)
  have b2 := bel_mk (w.alloc (.cells (exA e (.slice A e.args.length c)) 26)) (.cells #[] 42)
  have HB := Lib.hid (b1.trans (b2.mono b1.size))
  have HE := Lib.hid ((Own.new w 26 (exA e (.slice A e.args.length c))).alloc (.cells #[] 42))
  have HR0 := Lib.hid (show ((w.alloc (.cells (exA e (.slice A e.args.length c)) 26)).alloc (.cells #[] 42)).ownsRow (w.heap.size + 1) 42 5 (.slice (some ⟨w.heap.size + 1, 0, none⟩) 0 0) ([] : List Cnd).length (flatK []) from by have h := World.ownsRow_lit (base := w.heap.size + 1) (e := 42) (size := 5) (w.alloc (.cells (exA e (.slice A e.args.length c)) 26)) #[] 0 (by simp) (by decide) rfl; simp only [World.size_alloc] at h; exact h)
  have HC := Lib.hid (rConj_any w w.heap.size L d (Nat.le_refl _) d (Nat.le_refl _) e (.slice A e.args.length c) _ HB.out h hl)
  have HL := Lib.hid hl
  clear b1 b2 h hl
  generalize hzs : conjE d e = zs at *
  clear hzs
  unfold exV exA at *
  have e0 := HE.out.cell 0
  have e1 := HE.out.cell 1
  have e2 := HE.out.cell 2
  have e3 := HE.out.cell 3
  have e4 := HE.out.cell 4
  have e5 := HE.out.cell 5
  have e6 := HE.out.cell 6
  go_enter Tryz.func17, Tryz.ntmps17
  go_wp2_with fail
  with_reducible refine HC.out.mono ?_
  rintro e' w2 ⟨ad, c2, ps, rfl, hm2, hk2, ha2, hc2, hb2⟩
  have HB2 := Lib.hid (HB.out.trans (hb2.mono HB.out.size))
  have HR2 := Lib.hid (own_below HR0.out hb2)
  have HM2 := Lib.hid hm2
  have HK2 := Lib.hid hk2
  have HC2 := Lib.hid hc2
  have hpl : ps.length = zs.length := by rw [← hm2, List.length_map]
  have HPL := Lib.hid hpl
  simp only [World.size_alloc] at ha2
  have HA2 := Lib.hid ha2
  clear e0 e1 e2 e3 e4 e5 e6 HC HE HB hb2 HR0 hm2 hk2 hc2 hpl ha2
  go_wp2_with fail
  go_loopw [3, 5] (fun vb i wr => ∃ k : Nat, k ≤ ps.length ∧ i = .int .i64 k ∧ Hid (wr.ownsRow (w.heap.size + 1) 42 5 vb ((zs.take k).filterMap condE).length (flatK ((zs.take k).filterMap condE)) ∧ (∀ b, vb.ownBlock = some b → b ≠ ad.block) ∧ ∀ j u, (flatE ps)[j]? = some u → wr.cell? (ad.add j) = some u) ∧ Below w.heap.size w wr) (fun _ i _ => ps.length - (intOf i).toNat)
  case atStart =>
    have ho0 : ∀ b, (Value.slice (some ⟨w.heap.size + 1, 0, none⟩) 0 0).ownBlock = some b → b ≠ ad.block := fun b hb => by
      have e : w.heap.size + 1 = b := by simpa [Value.ownBlock] using hb
      have := HA2.out
      omega
    exact ⟨0, Nat.zero_le _, rfl, Lib.hid ⟨HR2.out, ho0, HC2.out⟩, HB2.out⟩
  case round =>
    clear HR2 HC2 HB2
    obtain ⟨k, hk, rfl, HQ, hbr⟩ := hrel
    have hbz := hbr.size
    obtain ⟨hrow, hown, hcel⟩ := HQ.out
    obtain ⟨Av, cv, rfl⟩ := ownK_shape hrow
    by_cases hlt : k < ps.length
    · have hki : (k : Int) < ps.length := by omega
      have hkl : (k : Int) + 1 ≤ 1099511627776 := by have := HPL.out; have := HL.out; omega
      have hwr : wrap64 ((k : Int) + 1) = (k : Int) + 1 := by unfold wrap64; omega
      have hpk := List.getElem?_eq_getElem hlt
      have hzk : zs[k]? = some (ps[k]).1 := by rw [← HM2.out, List.getElem?_map, hpk]; rfl
      have hft := fm_take zs k _ hzk
      have hkid := HK2.out _ (List.getElem_mem hlt)
      have G := fun j hj u hu => hcel (k * 7 + j) u ((flatE_get ps k _ hpk j hj).trans hu)
      have hadd : ∀ j, j ≠ 0 → ad.add (k * 7 + j) = ⟨(ad.add (k * 7)).block, (ad.add (k * 7)).off + j, none⟩ := fun j hj => by
        rw [add_blk]
        unfold Addr.add
        rw [if_neg (by omega)]
        split <;> simp <;> omega
      have hll : ((zs.take k).filterMap condE).length ≤ 1099511627776 := by have h1 := filterMap_le (zs.take k); have h2 := HL.out; simp only [List.length_take] at h1; omega
      generalize ps[k] = p at *
      obtain ⟨⟨q0, q1, ⟨q2, q3, q4⟩, q5, q6⟩, u⟩ := p
      dsimp only at hkid
      obtain ⟨A3, c3, rfl, hl3⟩ := hkid.slice
      have x0 := G 0 (by decide) _ rfl
      have x1 := G 1 (by decide) _ rfl
      have x2 := G 2 (by decide) _ rfl
      have x3 := G 3 (by decide) _ rfl
      have x4 := G 4 (by decide) _ rfl
      have x5 := G 5 (by decide) _ rfl
      have x6 := G 6 (by decide) _ rfl
      rw [Nat.add_zero] at x0
      rw [hadd 1 (by decide)] at x1
      rw [hadd 2 (by decide)] at x2
      rw [hadd 3 (by decide)] at x3
      rw [hadd 4 (by decide)] at x4
      rw [hadd 5 (by decide)] at x5
      rw [hadd 6 (by decide)] at x6
      have hlta := World.block_lt_of_cell? wr _ x0
      rw [add_blk] at hlta
      have hcn := rCnd_any d ⟨q0, q1, (q2, q3, q4), q5, q6⟩ A3 c3 wr L (hkid.step hbr (Nat.le_refl _))
      unfold exV at hcn
      dsimp only at hcn
      have HCN := Lib.hid hcn
      have HFT := Lib.hid hft
      have HRow := Lib.hid hrow
      have HOwn := Lib.hid hown
      have HCel := Lib.hid hcel
      have HLL := Lib.hid hll
      have HGE := Lib.hid (show ∀ b, (Value.slice Av ((zs.take k).filterMap condE).length cv).ownBlock = some b → w.heap.size + 1 ≤ b from fun b hb => (hrow.lt b hb).1)
      have hle : w.heap.size + 1 ≤ wr.heap.size := by have := HA2.out; omega
      clear hft hkid G hadd hcn hrow hown hcel HQ hpk hzk hll
      cases hcd : condE ⟨q0, q1, (q2, q3, q4), q5, q6⟩ with
      | none =>
        rw [hcd] at HCN HFT
        unfold cndV at HCN
        dsimp only [Option.isSome] at HCN
        simp only [Option.toList_none, List.append_nil] at HFT
        generalize hcn : (zs.take k).filterMap condE = cn at *
        go_wp2_with fail
        with_reducible refine HCN.out.mono ?_
        rintro e' w4 ⟨rfl, hb4⟩
        have HR4 := Lib.hid (own_below (own_below HRow.out hb4) (bel_mk _ (.cells #[.int .i64 0, .int .i64 0, .int .i64 0, .int .i64 0, .string ⟨#[]⟩] 42)))
        have bb := hb4.trans ((bel_mk w4 (.cells #[.int .i64 0, .int .i64 0, .int .i64 0, .int .i64 0, .string ⟨#[]⟩] 42)).mono hb4.size)
        have HB4 := Lib.hid (hbr.trans (bb.mono hbz))
        have HCel4 := Lib.hid (show ∀ j u, (flatE ps)[j]? = some u → (w4.alloc (.cells #[.int .i64 0, .int .i64 0, .int .i64 0, .int .i64 0, .string ⟨#[]⟩] 42)).cell? (ad.add j) = some u from fun j u hj => (bb.cell (by rw [add_blk]; exact hlta)).trans (HCel.out j u hj))
        clear hb4 bb x0 x1 x2 x3 x4 x5 x6 HCN HRow HCel
        go_wp2
        go_roundw
        case rel => exact ⟨k + 1, by omega, by go_num, Lib.hid ⟨by rw [HFT.out]; exact HR4.out, HOwn.out, HCel4.out⟩, HB4.out⟩
        case measure => simp [intOf]; omega
      | some q =>
        rw [hcd] at HCN HFT
        unfold cndV at HCN
        dsimp only [Option.isSome] at HCN
        simp only [Option.toList_some] at HFT
        generalize hcn : (zs.take k).filterMap condE = cn at *
        go_wp2_with fail
        with_reducible refine HCN.out.mono ?_
        rintro e' w4 ⟨rfl, hb4⟩
        have hz4 := hb4.size
        have bb := hb4.trans (((bel_mk w4 (.cells #[.int .i64 q.op, .int .i64 q.col, .int .i64 q.v.1, .int .i64 q.v.2.1, .string q.v.2.2] 42)).trans ((bel_mk _ (.cells #[.int .i64 q.op, .int .i64 q.col, .int .i64 q.v.1, .int .i64 q.v.2.1, .string q.v.2.2] 42)).mono (by simp))).mono hb4.size)
        have HR4 := Lib.hid (own_below HRow.out bb)
        have HB4 := Lib.hid (hbr.trans (bb.mono hbz))
        have HCel4 := Lib.hid (fun j u hj => (bb.cell (by rw [add_blk]; exact hlta)).trans (HCel.out j u hj))
        have hz5 := bb.size
        clear hb4 bb x0 x1 x2 x3 x4 x5 x6 HCN HRow HCel
        go_wp2_with (at_builtin; refine append_k1 _ rfl _ _ rfl (w.heap.size + 1) _ cn rfl HR4.out (w4.heap.size + 1) 1 q rfl (by have h := lit_k (w4.alloc (.cells #[.int .i64 q.op, .int .i64 q.col, .int .i64 q.v.1, .int .i64 q.v.2.1, .string q.v.2.2] 42)) q; simpa only [World.size_alloc] using h) HLL.out (by simp only [World.size_alloc]; omega) ?_; intro g3 cap3 w3 hr3 hg3 hv3; have HR5 := Lib.hid hr3; have HG5 := Lib.hid hg3; have HV5 := Lib.hid hv3; clear hr3 hg3 hv3)
        have HB5 := Lib.hid (HB4.out.grown HG5.out (by simp only [World.size_alloc]; omega) (fun b hb => by have := HGE.out b hb; omega))
        have hCel5 : ∀ j u, (flatE ps)[j]? = some u → w3.cell? (ad.add j) = some u := fun j u hj => (World.grownBy.cell_far HG5.out (ad.add j) (by rw [add_blk]; simp only [World.size_alloc]; omega) (fun e => by rw [add_blk] at e; exact HOwn.out _ e.symm rfl)).trans (HCel4.out j u hj)
        have hown5 : ∀ b, (Value.slice (some ⟨g3, 0, none⟩) (cn.length + 1) cap3).ownBlock = some b → b ≠ ad.block := fun b hb => by
          injection hb with hb
          subst hb
          rcases HV5.out with h | h
          · exact HOwn.out _ h
          · rw [h]; simp only [World.size_alloc]; omega
        have HN5 := Lib.hid hCel5
        have HO5 := Lib.hid hown5
        clear hCel5 hown5
        go_roundw
        case rel => exact ⟨k + 1, by omega, by go_num, Lib.hid ⟨by rw [HFT.out]; have h := HR5.out; rw [List.length_append] at h ⊢; exact h, HO5.out, HN5.out⟩, HB5.out⟩
        case measure => simp [intOf]; omega
    · have hki : ¬ (k : Int) < ps.length := by omega
      have HRow := Lib.hid (show wr.ownsRow (w.heap.size + 1) 42 5 (.slice Av ((zs.take k).filterMap condE).length cv) (zs.filterMap condE).length (flatK (zs.filterMap condE)) from by
        have h := hrow
        rw [List.take_of_length_le (by have := HPL.out; omega)] at h ⊢
        exact h)
      have HBR := Lib.hid hbr
      have HZ := Lib.hid (show (zs.filterMap condE).length ≤ 1099511627776 from by have h1 := filterMap_le zs; have h2 := HL.out; omega)
      clear hrow hown hcel HQ hbr
      go_wp2
      go_ret
      exact ⟨_, rfl, (rdQ_own HRow.out HZ.out).more (Nat.le_refl _) (by omega), HBR.out⟩
end Go.Proofs.YthnmcpfmljibeaaGreat
/-
  The reference's narrowed and on. Conditions: valid values, lengths.
-/
namespace Go.Proofs.YthnmcpfmljibeaaGreat
set_option maxRecDepth 100000
set_option linter.unusedVariables false
set_option linter.unusedSimpArgs false
open Go.RowKit

/-- A range narrowed by a condition with a number. -/
def narR (r : Int × Int) (c : Cnd) : Int × Int :=
  if c.op = 7 then (max r.1 c.v.2.1, min r.2 c.v.2.1)
  else if c.op = 9 then (r.1, min r.2 (c.v.2.1 - 1))
  else if c.op = 10 then (r.1, min r.2 c.v.2.1)
  else if c.op = 11 then (max r.1 (c.v.2.1 + 1), r.2)
  else (max r.1 c.v.2.1, r.2)
theorem load_rng {w : World} {g : Nat} {a b : Value} (ho : Own w g 92 #[a, b]) : (loadVar 92 ⟨g, 0, none⟩).run Tryz.prog w = .ok (.agg #[a, b]) w :=
  run_loadVar_row w g 92 92 #[a, b] (0, 0) _ ho Tryz.underlying92 rfl (by kernel_rfl)
theorem own_three1 {w : World} {t : TypeId} {cs : Array Value} (o o2 : Obj) : Own (((w.alloc o).alloc o2).alloc (.cells cs t)) (w.heap.size + 1 + 1) t cs := by
  have h := Own.new ((w.alloc o).alloc o2) t cs
  rwa [World.size_alloc, World.size_alloc] at h
theorem bel_three (w : World) (o o2 o3 : Obj) : Below w.heap.size w (((w.alloc o).alloc o2).alloc o3) :=
  ((bel_mk w o).trans ((bel_mk _ o2).mono (by simp))).trans ((bel_mk _ o3).mono (by simp; omega))
set_option maxRecDepth 100000 in
set_option maxHeartbeats 3200000 in
theorem rNar_any (r : Int × Int) (c : Cnd) (hv : -1125899906842624 ≤ c.v.2.1 ∧ c.v.2.1 ≤ 1125899906842624) (w : World) :
    Calls Tryz.prog 121 #[.agg #[.int .i64 r.1, .int .i64 r.2], .agg #[.int .i64 c.op, .int .i64 c.col, .int .i64 c.v.1, .int .i64 c.v.2.1, .string c.v.2.2]] w fun e w' => e = .returned (.agg #[.int .i64 (narR r c).1, .int .i64 (narR r c).2]) ∧ Below w.heap.size w w' := by
  obtain ⟨a, b⟩ := r
  obtain ⟨op, cl, ⟨k, n, t⟩⟩ := c
  unfold narR
  dsimp only at *
  have hw1 : -9223372036854775808 ≤ n - 1 ∧ n - 1 ≤ 9223372036854775807 := by omega
  have hw2 : -9223372036854775808 ≤ n + 1 ∧ n + 1 ≤ 9223372036854775807 := by omega
  by_cases h7 : op = 7
  · subst h7
    rw [if_pos rfl]
    go_enter Tryz.func121, Tryz.ntmps121
    go_wp2
    (try simp only [Exit.inBlock, Exit.then]); refine bodyPost_ret_by (results_cell_row1 (by rfl) _ _ (w.heap.size + 1 + 1) _ (by rfl) (load_rng (own_three1 _ _))) ?_ ?_; (focus rfl)
    exact ⟨by first | rfl | simp, bel_three w _ _ _⟩
  rw [if_neg h7]
  have b7 : (op == 7) = false := by rw [beq_eq_false_iff_ne]; exact h7
  by_cases h9 : op = 9
  · subst h9
    rw [if_pos rfl]
    go_enter Tryz.func121, Tryz.ntmps121
    go_wp2
    (try simp only [Exit.inBlock, Exit.then]); refine bodyPost_ret_by (results_cell_row1 (by rfl) _ _ (w.heap.size + 1 + 1) _ (by rfl) (load_rng (own_three1 _ _))) ?_ ?_; (focus rfl)
    exact ⟨by first | rfl | simp, bel_three w _ _ _⟩
  rw [if_neg h9]
  have b9 : (op == 9) = false := by rw [beq_eq_false_iff_ne]; exact h9
  by_cases h10 : op = 10
  · subst h10
    rw [if_pos rfl]
    go_enter Tryz.func121, Tryz.ntmps121
    go_wp2
    (try simp only [Exit.inBlock, Exit.then]); refine bodyPost_ret_by (results_cell_row1 (by rfl) _ _ (w.heap.size + 1 + 1) _ (by rfl) (load_rng (own_three1 _ _))) ?_ ?_; (focus rfl)
    exact ⟨by first | rfl | simp, bel_three w _ _ _⟩
  rw [if_neg h10]
  have b10 : (op == 10) = false := by rw [beq_eq_false_iff_ne]; exact h10
  by_cases h11 : op = 11
  · subst h11
    rw [if_pos rfl]
    go_enter Tryz.func121, Tryz.ntmps121
    go_wp2
    (try simp only [Exit.inBlock, Exit.then]); refine bodyPost_ret_by (results_cell_row1 (by rfl) _ _ (w.heap.size + 1 + 1) _ (by rfl) (load_rng (own_three1 _ _))) ?_ ?_; (focus rfl)
    exact ⟨by first | rfl | simp, bel_three w _ _ _⟩
  rw [if_neg h11]
  have b11 : (op == 11) = false := by rw [beq_eq_false_iff_ne]; exact h11
  go_enter Tryz.func121, Tryz.ntmps121
  go_wp2
  (try simp only [Exit.inBlock, Exit.then]); refine bodyPost_ret_by (results_cell_row1 (by rfl) _ _ (w.heap.size + 1 + 1) _ (by rfl) (load_rng (own_three1 _ _))) ?_ ?_; (focus rfl)
  exact ⟨by first | rfl | simp, bel_three w _ _ _⟩
set_option maxRecDepth 100000 in
set_option maxHeartbeats 6400000 in
theorem rOn_any (v : Value) (zs : List Cnd) (q : Int) (w : World) (L : Nat) (h : RdQ w L w.heap.size v zs) :
    Calls Tryz.prog 71 #[v, .int .i64 q] w fun e' w' => ∃ v', e' = .returned v' ∧ RdQ w' w.heap.size w'.heap.size v' (onC zs q) ∧ Below w.heap.size w w' := by
  have HR := Lib.hid h
  obtain ⟨A, c, rfl, hzl, _⟩ := h
  have b1 := bel_mk w (.cells #[] 42)
  have HB := Lib.hid b1
  have HR0 := Lib.hid (show (w.alloc (.cells #[] 42)).ownsRow w.heap.size 42 5 (.slice (some ⟨w.heap.size, 0, none⟩) 0 0) ([] : List Cnd).length (flatK []) from World.ownsRow_lit w #[] 0 (Nat.le_refl _) (by decide) rfl)
  clear b1
  go_enter Tryz.func71, Tryz.ntmps71
  go_wp2_with fail
  go_loopw [5, 6] (fun vb i wr => ∃ k : Nat, k ≤ zs.length ∧ i = .int .i64 k ∧ Hid (wr.ownsRow w.heap.size 42 5 vb (onC (zs.take k) q).length (flatK (onC (zs.take k) q))) ∧ Below w.heap.size w wr) (fun _ i _ => zs.length - (intOf i).toNat)
  case atStart => exact ⟨0, Nat.zero_le _, rfl, HR0, HB.out⟩
  case round =>
    clear HR0 HB
    obtain ⟨k, hk, rfl, HQ, hbr⟩ := hrel
    have hbz := hbr.size
    obtain ⟨Av, cv, rfl⟩ := ownK_shape HQ.out
    by_cases hlt : k < zs.length
    · have hki : (k : Int) < zs.length := by omega
      have hkl : (k : Int) + 1 ≤ 1099511627776 := by omega
      have hzk := List.getElem?_eq_getElem hlt
      have hot := onC_take zs k _ q hzk
      obtain ⟨ad, cz, hsl, _, hab, y0, y1, y2, y3, y4⟩ := ((HR.out.below hbr).at k _ hzk)
      injection hsl with hs1 hs2 hs3
      subst hs1 hs3
      generalize zs[k] = z at *
      have HOT := Lib.hid hot
      have HLL := Lib.hid (show (onC (zs.take k) q).length ≤ 1099511627776 from by have h1 : (onC (zs.take k) q).length ≤ (zs.take k).length := List.length_filter_le _ _; rw [List.length_take] at h1; omega)
      have HGE := Lib.hid (show ∀ b, (Value.slice Av (onC (zs.take k) q).length cv).ownBlock = some b → w.heap.size ≤ b from fun b hb => (HQ.out.lt b hb).1)
      clear hot hzk hs2
      generalize hcn : onC (zs.take k) q = cn at *
      obtain ⟨zo, zc, ⟨zk, zn, zt⟩⟩ := z
      dsimp only at *
      by_cases hz : zc = q
      · subst hz
        have HR1 := Lib.hid (own_below HQ.out (bel_mk wr (.cells #[.int .i64 zo, .int .i64 zc, .int .i64 zk, .int .i64 zn, .string zt] 42)))
        have HB1 := Lib.hid (hbr.trans ((bel_mk wr (.cells #[.int .i64 zo, .int .i64 zc, .int .i64 zk, .int .i64 zn, .string zt] 42)).mono hbz))
        go_wp2_with (at_builtin; refine append_k1 _ rfl _ _ rfl w.heap.size _ cn rfl HR1.out wr.heap.size 1 ⟨zo, zc, (zk, zn, zt)⟩ rfl (lit_k wr ⟨zo, zc, (zk, zn, zt)⟩) HLL.out (by simp only [World.size_alloc]; omega) ?_; intro g3 cap3 w3 hr3 hg3 hv3; have HR5 := Lib.hid hr3; have HB5 := Lib.hid (HB1.out.grown hg3 (by simp only [World.size_alloc]; omega) (fun b hb => by have := HGE.out b hb; omega)); clear hr3 hg3 hv3)
        go_roundw
        case rel => exact ⟨k + 1, by omega, by go_num, Lib.hid (by rw [HOT.out, if_pos rfl]; have h := HR5.out; rw [List.length_append] at h ⊢; exact h), HB5.out⟩
        case measure => simp [intOf]; omega
      · have hzb : (zc == q) = false := by rw [beq_eq_false_iff_ne]; exact hz
        go_wp2
        go_roundw
        case rel => exact ⟨k + 1, by omega, by go_num, Lib.hid (by rw [HOT.out, if_neg hz]; exact HQ.out), hbr⟩
        case measure => simp [intOf]; omega
    · have hki : ¬ (k : Int) < zs.length := by omega
      have HF := Lib.hid (show wr.ownsRow w.heap.size 42 5 (.slice Av (onC (zs.take k) q).length cv) (onC zs q).length (flatK (onC zs q)) from by
        have h := HQ.out
        rw [List.take_of_length_le (by omega)] at h ⊢
        exact h)
      have HZ := Lib.hid (show (onC zs q).length ≤ 1099511627776 from by have h1 : (onC zs q).length ≤ zs.length := List.length_filter_le _ _; omega)
      clear HQ
      go_wp2
      go_ret
      exact ⟨_, rfl, rdQ_own HF.out HZ.out, hbr⟩
end Go.Proofs.YthnmcpfmljibeaaGreat
/-
  The reference's bounds and Window. Conditions: valid values, lengths.
-/
namespace Go.Proofs.YthnmcpfmljibeaaGreat
set_option maxRecDepth 100000
set_option linter.unusedVariables false
set_option linter.unusedSimpArgs false
open Go.RowKit

/-- What bounds answers. -/
def bndR : List Cnd → Int × Int → (Int × Int) × Bool
  | [], r => (r, true)
  | c :: l, r => if c.v.1 ≠ 1 then (r, false) else bndR l (narR r c)
theorem bndR_drop (l : List Cnd) (k : Nat) (z : Cnd) (r : Int × Int) (h : l[k]? = some z) : bndR (l.drop k) r = if z.v.1 ≠ 1 then (r, false) else bndR (l.drop (k + 1)) (narR r z) := by
  obtain ⟨h1, rfl⟩ := List.getElem?_eq_some_iff.1 h
  rw [List.drop_eq_getElem_cons h1]
  rfl
theorem vld_rng {v : Vl} (hv : vldP v = true) : -1125899906842624 ≤ v.2.1 ∧ v.2.1 ≤ 1125899906842624 := by
  obtain ⟨k, n, s⟩ := v
  unfold vldP Va.vldV at hv
  dsimp only at hv ⊢
  split at hv
  · simp at hv; omega
  · split at hv
    · simp at hv; omega
    · split at hv
      · simp at hv; omega
      · split at hv
        · simp at hv; omega
        · cases hv
set_option maxRecDepth 100000 in
set_option maxHeartbeats 6400000 in
theorem rBnd_any (v : Value) (zs : List Cnd) (q lo hi : Int) (w : World) (L : Nat) (h : RdQ w L w.heap.size v zs) (hv : ∀ z ∈ zs, vldP z.v = true) :
    Calls Tryz.prog 74 #[v, .int .i64 q, .int .i64 lo, .int .i64 hi] w fun e' w' => e' = .returned (.tuple #[.agg #[.int .i64 (bndR (onC zs q) (lo, hi)).1.1, .int .i64 (bndR (onC zs q) (lo, hi)).1.2], .bool (bndR (onC zs q) (lo, hi)).2]) ∧ Below w.heap.size w w' := by
  have HB := Lib.hid (show Below w.heap.size w ((w.alloc (.cells #[.int .i64 0, .int .i64 0] 92)).alloc (.cells #[.int .i64 lo, .int .i64 hi] 92)) from (bel_mk w _).trans ((bel_mk _ _).mono (by simp)))
  have HO := Lib.hid (show Own ((w.alloc (.cells #[.int .i64 0, .int .i64 0] 92)).alloc (.cells #[.int .i64 lo, .int .i64 hi] 92)) w.heap.size 92 #[.int .i64 0, .int .i64 0] from (Own.new w _ _).alloc _)
  have HR := Lib.hid (show Own ((w.alloc (.cells #[.int .i64 0, .int .i64 0] 92)).alloc (.cells #[.int .i64 lo, .int .i64 hi] 92)) (w.heap.size + 1) 92 #[.int .i64 lo, .int .i64 hi] from Va.own_two _)
  have HC := Lib.hid (rOn_any v zs q _ L (h.step HB.out (Nat.le_refl _)))
  have HV := Lib.hid (show ∀ z ∈ onC zs q, vldP z.v = true from fun z hz => hv z (List.mem_filter.1 hz).1)
  clear h hv
  generalize onC zs q = ls at *
  have HD := Lib.hid (show bndR ls (lo, hi) = bndR (ls.drop 0) (lo, hi) from rfl)
  generalize hbd : bndR ls (lo, hi) = bd at *
  obtain ⟨⟨d1, d2⟩, d3⟩ := bd
  clear hbd
  dsimp only at *
  go_enter Tryz.func74, Tryz.ntmps74
  go_wp2_with fail
  with_reducible refine HC.out.mono ?_
  rintro e' w2 ⟨v2, rfl, hr2, hb2⟩
  have HB2 := Lib.hid (HB.out.trans (hb2.mono HB.out.size))
  have HO2 := Lib.hid (HO.out.below hb2 HO.out.lt)
  have HR2 := Lib.hid (HR.out.below hb2 HR.out.lt)
  have HQ2 := Lib.hid (hr2.more (Nat.le_refl _) (show w.heap.size + 2 ≤ _ from by simp))
  obtain ⟨A2, c2, rfl, hll, _⟩ := hr2
  clear hb2 HB HO HR HC
  go_wp2_with fail
  go_loopw [12] (fun i wr => ∃ (k : Nat) (r : Int × Int), k ≤ ls.length ∧ i = .int .i64 k ∧ Hid (((d1, d2), d3) = bndR (ls.drop k) r) ∧ Hid (Own wr w.heap.size 92 #[.int .i64 0, .int .i64 0] ∧ Own wr (w.heap.size + 1) 92 #[.int .i64 r.1, .int .i64 r.2] ∧ RdQ wr (w.heap.size + 2) wr.heap.size (.slice A2 ls.length c2) ls ∧ Below w.heap.size w wr)) (fun i _ => ls.length - (intOf i).toNat)
  case atStart => exact ⟨0, (lo, hi), Nat.zero_le _, rfl, HD, Lib.hid ⟨HO2.out, HR2.out, HQ2.out, HB2.out⟩⟩
  case round =>
    clear HO2 HR2 HQ2 HB2 HD
    obtain ⟨k, ⟨r1, r2⟩, hk, rfl, HD, HW⟩ := hrel
    dsimp only at HW
    by_cases hlt : k < ls.length
    · have hki : (k : Int) < ls.length := by omega
      have hkl : (k : Int) + 1 ≤ 1099511627776 := by omega
      have hzk := List.getElem?_eq_getElem hlt
      have hdz := HD.out.trans (bndR_drop ls k _ (r1, r2) hzk)
      have hvz := vld_rng (HV.out _ (List.getElem_mem hlt))
      obtain ⟨ad, cz, hsl, _, hab, y0, y1, y2, y3, y4⟩ := HW.out.2.2.1.at k _ hzk
      injection hsl with hs1 hs2 hs3
      subst hs1 hs3
      generalize ls[k] = z at *
      have HN := Lib.hid (fun W => rNar_any (r1, r2) z hvz W)
      obtain ⟨zo, zc, ⟨zk, zn, zt⟩⟩ := z
      dsimp only at *
      have o0 := HW.out.1.cell 0
      have o1 := HW.out.1.cell 1
      have f0 := HW.out.1.free 0
      have f1 := HW.out.1.free 1
      have q0 := HW.out.2.1.cell 0
      have q1 := HW.out.2.1.cell 1
      clear hzk hvz hs2
      by_cases hz : zk = 1
      · subst hz
        rw [if_neg (by simp)] at hdz
        have HDZ := Lib.hid hdz
        clear hdz
        generalize narR (r1, r2) ⟨zo, zc, (1, zn, zt)⟩ = nr at *
        have HO3 := Lib.hid (show Own wr.drew w.heap.size 92 #[.int .i64 0, .int .i64 0] from HW.out.1)
        have HR3 := Lib.hid (show Own wr.drew (w.heap.size + 1) 92 #[.int .i64 r1, .int .i64 r2] from HW.out.2.1)
        have HQ3 := Lib.hid (show RdQ wr.drew (w.heap.size + 2) wr.drew.heap.size (.slice (some ad) ls.length c2) ls from HW.out.2.2.1)
        have HB3 := Lib.hid (HW.out.2.2.2.drew)
        go_wp2_with fail
        go_region_law (first | (go_simp; go_at_call 121; with_reducible refine (HN.out _).mono ?_; rintro e w4 ⟨rfl, hb4⟩; have HO4 := Lib.hid (HO3.out.below hb4 HO3.out.lt); have HR4 := Lib.hid (HR3.out.below hb4 HR3.out.lt); have HQ4 := Lib.hid (HQ3.out.step hb4 (Nat.le_refl _)); have HB4 := Lib.hid (HB3.out.trans (hb4.mono HB3.out.size)); have s0 := HR4.out.cell 0; have s1 := HR4.out.cell 1; have t0 := HR4.out.free 0; have t1 := HR4.out.free 1; clear hb4))
        all_goals
          have hx := (HR4.out.store 0 (.int .i64 nr.1)).store 1 (.int .i64 nr.2)
          simp only [List.setIfInBounds_toArray, List.set_cons_zero, List.set_cons_succ] at hx
          have HX := Lib.hid hx
          have HO5 := Lib.hid ((HO4.out.far (p := ⟨w.heap.size + 1, 0, none⟩) (by show w.heap.size ≠ w.heap.size + 1; omega) (.int .i64 nr.1)).far (p := ⟨w.heap.size + 1, 1, none⟩) (by show w.heap.size ≠ w.heap.size + 1; omega) (.int .i64 nr.2))
          have HQ5 := Lib.hid ((HQ4.out.far (p := ⟨w.heap.size + 1, 0, none⟩) (by show w.heap.size + 1 < w.heap.size + 2; omega) (.int .i64 nr.1)).far (p := ⟨w.heap.size + 1, 1, none⟩) (by show w.heap.size + 1 < w.heap.size + 2; omega) (.int .i64 nr.2))
          have HB5 := Lib.hid ((HB4.out.setCell (p := ⟨w.heap.size + 1, 0, none⟩) (by show w.heap.size ≤ w.heap.size + 1; omega) (.int .i64 nr.1)).setCell (p := ⟨w.heap.size + 1, 1, none⟩) (by show w.heap.size ≤ w.heap.size + 1; omega) (.int .i64 nr.2))
          clear hx
          go_wp2
          go_roundw
          case rel => exact ⟨k + 1, nr, by omega, by go_num, HDZ, Lib.hid ⟨HO5.out, HX.out, by simp only [World.size_setCell]; exact HQ5.out, HB5.out⟩⟩
          case measure => simp [intOf]; omega
      · have hzb : (zk == 1) = false := by rw [beq_eq_false_iff_ne]; exact hz
        rw [if_pos hz] at hdz
        injection hdz with e1 e2
        injection e1 with e3 e4
        subst e2 e3 e4
        have hx := (HW.out.1.store 0 (.int .i64 d1)).store 1 (.int .i64 d2)
        simp only [List.setIfInBounds_toArray, List.set_cons_zero, List.set_cons_succ] at hx
        have HX := Lib.hid hx
        have HB5 := Lib.hid ((HW.out.2.2.2.setCell (p := ⟨w.heap.size, 0, none⟩) (by show w.heap.size ≤ w.heap.size; omega) (.int .i64 d1)).setCell (p := ⟨w.heap.size, 1, none⟩) (by show w.heap.size ≤ w.heap.size; omega) (.int .i64 d2))
        clear hx HW HD HN HV y0 y1 y3 y4 hkl
        go_upto_region 7 with fail
        clear y2 hab hz hzb hki hlt
        go_wp2
        (try simp only [Exit.inBlock, Exit.then]); refine bodyPost_ret_by (rcell2 (by rfl) _ _ w.heap.size _ (by rfl) (load_rng HX.out)) ?_ ?_; (focus rfl)
        exact ⟨rfl, HB5.out⟩
    · have hki : ¬ (k : Int) < ls.length := by omega
      have hdz := HD.out
      rw [List.drop_of_length_le (by omega)] at hdz
      unfold bndR at hdz
      injection hdz with e1 e2
      injection e1 with e3 e4
      subst e2 e3 e4
      have o0 := HW.out.1.cell 0
      have o1 := HW.out.1.cell 1
      have f0 := HW.out.1.free 0
      have f1 := HW.out.1.free 1
      have q0 := HW.out.2.1.cell 0
      have q1 := HW.out.2.1.cell 1
      have hx := (HW.out.1.store 0 (.int .i64 d1)).store 1 (.int .i64 d2)
      simp only [List.setIfInBounds_toArray, List.set_cons_zero, List.set_cons_succ] at hx
      have HX := Lib.hid hx
      have HB5 := Lib.hid ((HW.out.2.2.2.setCell (p := ⟨w.heap.size, 0, none⟩) (by show w.heap.size ≤ w.heap.size; omega) (.int .i64 d1)).setCell (p := ⟨w.heap.size, 1, none⟩) (by show w.heap.size ≤ w.heap.size; omega) (.int .i64 d2))
      clear hx HW HD
      go_wp2
      (try simp only [Exit.inBlock, Exit.then]); refine bodyPost_ret_by (rcell2 (by rfl) _ _ w.heap.size _ (by rfl) (load_rng HX.out)) ?_ ?_; (focus rfl)
      exact ⟨rfl, HB5.out⟩
end Go.Proofs.YthnmcpfmljibeaaGreat
/-
  The reference's Window. Conditions: lengths.
-/
namespace Go.Proofs.YthnmcpfmljibeaaGreat
set_option maxRecDepth 100000
set_option linter.unusedVariables false
set_option linter.unusedSimpArgs false
open Go.RowKit

def winQ (a b : (Int × Int) × Bool) : (Int × Int) × Bool :=
  if a.2 = false ∨ b.2 = false ∨ a.1.2 < a.1.1 ∨ b.1.2 < b.1.1 ∨ b.1.2 ≤ a.1.1 then ((0, 0), false)
  else if a.1.2 < b.1.1 then ((a.1.2, b.1.1), true) else ((a.1.1, b.1.2), true)
def winR (l : List Cnd) (f t : Int) : (Int × Int) × Bool := winQ (bndR (onC l f) (0, 1099511627775)) (bndR (onC l t) (1, 1099511627776))
set_option maxRecDepth 100000 in
set_option maxHeartbeats 6400000 in
theorem rWin_any (d : Nat) (e : Ex) (u : Value) (f t : Int) (w : World) (L : Nat) (h : RdE w L w.heap.size d u e.args) (hl : (conjE d e).length ≤ 1099511627776) :
    Calls Tryz.prog 23 #[exV e u, .int .i64 f, .int .i64 t] w fun e' w' => e' = .returned (.tuple #[.agg #[.int .i64 (winR ((conjE d e).filterMap condE) f t).1.1, .int .i64 (winR ((conjE d e).filterMap condE) f t).1.2], .bool (winR ((conjE d e).filterMap condE) f t).2]) ∧ Below w.heap.size w w' := by
  obtain ⟨A, c, rfl, _⟩ := h.slice
  have b1 := bel_mk w (.cells (exA e (.slice A e.args.length c)) 26)
  have b2 := bel_mk (w.alloc (.cells (exA e (.slice A e.args.length c)) 26)) (.cells #[.int .i64 0, .int .i64 0] 49)
  have HB := Lib.hid (b1.trans (b2.mono b1.size))
  have HE := Lib.hid ((Own.new w 26 (exA e (.slice A e.args.length c))).alloc (.cells #[.int .i64 0, .int .i64 0] 49))
  have HP := Lib.hid (show Own ((w.alloc (.cells (exA e (.slice A e.args.length c)) 26)).alloc (.cells #[.int .i64 0, .int .i64 0] 49)) (w.heap.size + 1) 49 #[.int .i64 0, .int .i64 0] from Va.own_two _)
  have HC := Lib.hid (rConds_any d e (.slice A e.args.length c) _ L (h.step HB.out (Nat.le_refl _)) hl)
  have HV := Lib.hid (cvld (conjE d e))
  clear h b1 b2 hl
  generalize (conjE d e).filterMap condE = zs at *
  have HA := Lib.hid (fun v W L h => rBnd_any v zs f 0 1099511627775 W L h HV.out)
  have HD := Lib.hid (fun v W L h => rBnd_any v zs t 1 1099511627776 W L h HV.out)
  unfold winR
  generalize bndR (onC zs f) (0, 1099511627775) = ra at *
  generalize bndR (onC zs t) (1, 1099511627776) = rb at *
  obtain ⟨⟨a1, a2⟩, ab⟩ := ra
  obtain ⟨⟨b1, b2⟩, bb⟩ := rb
  dsimp only at *
  unfold exV exA at *
  have e0 := HE.out.cell 0
  have e1 := HE.out.cell 1
  have e2 := HE.out.cell 2
  have e3 := HE.out.cell 3
  have e4 := HE.out.cell 4
  have e5 := HE.out.cell 5
  have e6 := HE.out.cell 6
  generalize hwq : winQ ((a1, a2), ab) ((b1, b2), bb) = rr
  have HWQ := Lib.hid hwq
  unfold winQ at HWQ
  dsimp only at HWQ
  clear hwq
  go_enter Tryz.func23, Tryz.ntmps23
  go_wp2_with fail
  with_reducible refine HC.out.mono ?_
  rintro e' w1 ⟨v, rfl, hr1, hb1⟩
  have HB1 := Lib.hid (HB.out.trans (hb1.mono HB.out.size))
  have HP1 := Lib.hid (HP.out.below hb1 HP.out.lt)
  have HR1 := Lib.hid hr1
  clear hb1 hr1 e0 e1 e2 e3 e4 e5 e6 HE HB HP HC
  go_wp2_with fail
  with_reducible refine (HA.out _ _ _ HR1.out).mono ?_
  rintro e' w2 ⟨rfl, hb2⟩
  have hb3 := hb2.trans ((bel_mk w2 (.cells #[.int .i64 a1, .int .i64 a2] 92)).mono hb2.size)
  have HB2 := Lib.hid (HB1.out.trans (hb3.mono HB1.out.size))
  have HP2 := Lib.hid (HP1.out.below hb3 HP1.out.lt)
  have HR2 := Lib.hid (HR1.out.step hb3 (Nat.le_refl _))
  have HX := Lib.hid (Own.new w2 92 #[.int .i64 a1, .int .i64 a2])
  clear hb2 hb3 HB1 HP1 HR1 HA
  go_wp2_with fail
  with_reducible refine (HD.out _ _ _ HR2.out).mono ?_
  rintro e' w3 ⟨rfl, hb2⟩
  have hb3 := hb2.trans ((bel_mk w3 (.cells #[.int .i64 b1, .int .i64 b2] 92)).mono hb2.size)
  have HB3 := Lib.hid (HB2.out.trans (hb3.mono HB2.out.size))
  have HP3 := Lib.hid (HP2.out.below hb3 HP2.out.lt)
  have HX3 := Lib.hid (HX.out.below hb3 HX.out.lt)
  have hx0 := (HX.out.below hb2 HX.out.lt).cell 0
  have hx1 := (HX.out.below hb2 HX.out.lt).cell 1
  have hlx := (HX.out.below hb2 HX.out.lt).lt
  have hpp := (HP2.out.below hb2 HP2.out.lt)
  have p0 := hpp.cell 0
  have p1 := hpp.cell 1
  have g0 := hpp.free 0
  have g1 := hpp.free 1
  have hlp := hpp.lt
  have HPQ := Lib.hid hpp
  have HBQ := Lib.hid (HB2.out.trans (hb2.mono HB2.out.size))
  clear hb2 hb3 HB2 HP2 HR2 HX HD hpp
  cases ab
  · go_wp2
    have hx := (HPQ.out.store 0 (.int .i64 0)).store 1 (.int .i64 0)
    simp only [List.setIfInBounds_toArray, List.set_cons_zero, List.set_cons_succ] at hx
    have hy := (HP3.out.store 0 (.int .i64 0)).store 1 (.int .i64 0)
    simp only [List.setIfInBounds_toArray, List.set_cons_zero, List.set_cons_succ] at hy
    (try simp only [Exit.inBlock, Exit.then]); refine bodyPost_ret_by (Va.results_cell_row2 (by rfl) _ _ (w.heap.size + 1) _ (by rfl) (load_per (by first | exact hy | exact hx.alloc _))) ?_ ?_; (focus rfl)
    rw [← HWQ.out, if_pos (by simp)]
    refine ⟨rfl, ?_⟩
    first | exact (HB3.out.setCell (p := ⟨w.heap.size + 1, 0, none⟩) (by show w.heap.size ≤ w.heap.size + 1; omega) _).setCell (p := ⟨w.heap.size + 1, 1, none⟩) (by show w.heap.size ≤ w.heap.size + 1; omega) _ | exact ((HBQ.out.setCell (p := ⟨w.heap.size + 1, 0, none⟩) (by show w.heap.size ≤ w.heap.size + 1; omega) _).setCell (p := ⟨w.heap.size + 1, 1, none⟩) (by show w.heap.size ≤ w.heap.size + 1; omega) _).alloc (by have := HBQ.out.size; simpa using this) _
  cases bb
  · go_wp2
    have hx := (HPQ.out.store 0 (.int .i64 0)).store 1 (.int .i64 0)
    simp only [List.setIfInBounds_toArray, List.set_cons_zero, List.set_cons_succ] at hx
    have hy := (HP3.out.store 0 (.int .i64 0)).store 1 (.int .i64 0)
    simp only [List.setIfInBounds_toArray, List.set_cons_zero, List.set_cons_succ] at hy
    (try simp only [Exit.inBlock, Exit.then]); refine bodyPost_ret_by (Va.results_cell_row2 (by rfl) _ _ (w.heap.size + 1) _ (by rfl) (load_per (by first | exact hy | exact hx.alloc _))) ?_ ?_; (focus rfl)
    rw [← HWQ.out, if_pos (by simp)]
    refine ⟨rfl, ?_⟩
    first | exact (HB3.out.setCell (p := ⟨w.heap.size + 1, 0, none⟩) (by show w.heap.size ≤ w.heap.size + 1; omega) _).setCell (p := ⟨w.heap.size + 1, 1, none⟩) (by show w.heap.size ≤ w.heap.size + 1; omega) _ | exact ((HBQ.out.setCell (p := ⟨w.heap.size + 1, 0, none⟩) (by show w.heap.size ≤ w.heap.size + 1; omega) _).setCell (p := ⟨w.heap.size + 1, 1, none⟩) (by show w.heap.size ≤ w.heap.size + 1; omega) _).alloc (by have := HBQ.out.size; simpa using this) _
  by_cases h1 : a2 < a1
  · go_wp2
    have hx := (HPQ.out.store 0 (.int .i64 0)).store 1 (.int .i64 0)
    simp only [List.setIfInBounds_toArray, List.set_cons_zero, List.set_cons_succ] at hx
    have hy := (HP3.out.store 0 (.int .i64 0)).store 1 (.int .i64 0)
    simp only [List.setIfInBounds_toArray, List.set_cons_zero, List.set_cons_succ] at hy
    (try simp only [Exit.inBlock, Exit.then]); refine bodyPost_ret_by (Va.results_cell_row2 (by rfl) _ _ (w.heap.size + 1) _ (by rfl) (load_per (by first | exact hy | exact hx.alloc _))) ?_ ?_; (focus rfl)
    rw [← HWQ.out, if_pos (.inr (.inr (.inl h1)))]
    refine ⟨rfl, ?_⟩
    first | exact (HB3.out.setCell (p := ⟨w.heap.size + 1, 0, none⟩) (by show w.heap.size ≤ w.heap.size + 1; omega) _).setCell (p := ⟨w.heap.size + 1, 1, none⟩) (by show w.heap.size ≤ w.heap.size + 1; omega) _ | exact ((HBQ.out.setCell (p := ⟨w.heap.size + 1, 0, none⟩) (by show w.heap.size ≤ w.heap.size + 1; omega) _).setCell (p := ⟨w.heap.size + 1, 1, none⟩) (by show w.heap.size ≤ w.heap.size + 1; omega) _).alloc (by have := HBQ.out.size; simpa using this) _
  by_cases h2 : b2 < b1
  · go_wp2
    have hx := (HPQ.out.store 0 (.int .i64 0)).store 1 (.int .i64 0)
    simp only [List.setIfInBounds_toArray, List.set_cons_zero, List.set_cons_succ] at hx
    have hy := (HP3.out.store 0 (.int .i64 0)).store 1 (.int .i64 0)
    simp only [List.setIfInBounds_toArray, List.set_cons_zero, List.set_cons_succ] at hy
    (try simp only [Exit.inBlock, Exit.then]); refine bodyPost_ret_by (Va.results_cell_row2 (by rfl) _ _ (w.heap.size + 1) _ (by rfl) (load_per (by first | exact hy | exact hx.alloc _))) ?_ ?_; (focus rfl)
    rw [← HWQ.out, if_pos (.inr (.inr (.inr (.inl h2))))]
    refine ⟨rfl, ?_⟩
    first | exact (HB3.out.setCell (p := ⟨w.heap.size + 1, 0, none⟩) (by show w.heap.size ≤ w.heap.size + 1; omega) _).setCell (p := ⟨w.heap.size + 1, 1, none⟩) (by show w.heap.size ≤ w.heap.size + 1; omega) _ | exact ((HBQ.out.setCell (p := ⟨w.heap.size + 1, 0, none⟩) (by show w.heap.size ≤ w.heap.size + 1; omega) _).setCell (p := ⟨w.heap.size + 1, 1, none⟩) (by show w.heap.size ≤ w.heap.size + 1; omega) _).alloc (by have := HBQ.out.size; simpa using this) _
  by_cases h3 : b2 ≤ a1
  · go_wp2
    have hx := (HPQ.out.store 0 (.int .i64 0)).store 1 (.int .i64 0)
    simp only [List.setIfInBounds_toArray, List.set_cons_zero, List.set_cons_succ] at hx
    have hy := (HP3.out.store 0 (.int .i64 0)).store 1 (.int .i64 0)
    simp only [List.setIfInBounds_toArray, List.set_cons_zero, List.set_cons_succ] at hy
    (try simp only [Exit.inBlock, Exit.then]); refine bodyPost_ret_by (Va.results_cell_row2 (by rfl) _ _ (w.heap.size + 1) _ (by rfl) (load_per (by first | exact hy | exact hx.alloc _))) ?_ ?_; (focus rfl)
    rw [← HWQ.out, if_pos (.inr (.inr (.inr (.inr h3))))]
    refine ⟨rfl, ?_⟩
    first | exact (HB3.out.setCell (p := ⟨w.heap.size + 1, 0, none⟩) (by show w.heap.size ≤ w.heap.size + 1; omega) _).setCell (p := ⟨w.heap.size + 1, 1, none⟩) (by show w.heap.size ≤ w.heap.size + 1; omega) _ | exact ((HBQ.out.setCell (p := ⟨w.heap.size + 1, 0, none⟩) (by show w.heap.size ≤ w.heap.size + 1; omega) _).setCell (p := ⟨w.heap.size + 1, 1, none⟩) (by show w.heap.size ≤ w.heap.size + 1; omega) _).alloc (by have := HBQ.out.size; simpa using this) _
  have hn : ¬ (true = false ∨ true = false ∨ a2 < a1 ∨ b2 < b1 ∨ b2 ≤ a1) := by rintro (h | h | h | h | h); cases h; cases h; exact h1 h; exact h2 h; exact h3 h
  have HNN := Lib.hid hn
  clear hn
  by_cases h4 : a2 < b1
  · go_wp2
    have hx := (HPQ.out.store 0 (.int .i64 a2)).store 1 (.int .i64 b1)
    simp only [List.setIfInBounds_toArray, List.set_cons_zero, List.set_cons_succ] at hx
    have hy := (HP3.out.store 0 (.int .i64 a2)).store 1 (.int .i64 b1)
    simp only [List.setIfInBounds_toArray, List.set_cons_zero, List.set_cons_succ] at hy
    (try simp only [Exit.inBlock, Exit.then]); refine bodyPost_ret_by (Va.results_cell_row2 (by rfl) _ _ (w.heap.size + 1) _ (by rfl) (load_per (by first | exact hy | exact hx.alloc _))) ?_ ?_; (focus rfl)
    rw [← HWQ.out, if_neg HNN.out, if_pos h4]
    refine ⟨rfl, ?_⟩
    first | exact (HB3.out.setCell (p := ⟨w.heap.size + 1, 0, none⟩) (by show w.heap.size ≤ w.heap.size + 1; omega) _).setCell (p := ⟨w.heap.size + 1, 1, none⟩) (by show w.heap.size ≤ w.heap.size + 1; omega) _ | exact ((HBQ.out.setCell (p := ⟨w.heap.size + 1, 0, none⟩) (by show w.heap.size ≤ w.heap.size + 1; omega) _).setCell (p := ⟨w.heap.size + 1, 1, none⟩) (by show w.heap.size ≤ w.heap.size + 1; omega) _).alloc (by have := HBQ.out.size; simpa using this) _
  · go_wp2
    have hx := (HPQ.out.store 0 (.int .i64 a1)).store 1 (.int .i64 b2)
    simp only [List.setIfInBounds_toArray, List.set_cons_zero, List.set_cons_succ] at hx
    have hy := (HP3.out.store 0 (.int .i64 a1)).store 1 (.int .i64 b2)
    simp only [List.setIfInBounds_toArray, List.set_cons_zero, List.set_cons_succ] at hy
    (try simp only [Exit.inBlock, Exit.then]); refine bodyPost_ret_by (Va.results_cell_row2 (by rfl) _ _ (w.heap.size + 1) _ (by rfl) (load_per (by first | exact hy | exact hx.alloc _))) ?_ ?_; (focus rfl)
    rw [← HWQ.out, if_neg HNN.out, if_neg (by omega)]
    refine ⟨rfl, ?_⟩
    first | exact (HB3.out.setCell (p := ⟨w.heap.size + 1, 0, none⟩) (by show w.heap.size ≤ w.heap.size + 1; omega) _).setCell (p := ⟨w.heap.size + 1, 1, none⟩) (by show w.heap.size ≤ w.heap.size + 1; omega) _ | exact ((HBQ.out.setCell (p := ⟨w.heap.size + 1, 0, none⟩) (by show w.heap.size ≤ w.heap.size + 1; omega) _).setCell (p := ⟨w.heap.size + 1, 1, none⟩) (by show w.heap.size ≤ w.heap.size + 1; omega) _).alloc (by have := HBQ.out.size; simpa using this) _
end Go.Proofs.YthnmcpfmljibeaaGreat
