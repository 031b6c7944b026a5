import Derived.Test.YthnmcpfmljibeaaGreatPRa
import Derived.Test.YthnmcpfmljibeaaGreatPE
import Derived.WalkKit
import Derived.WalkSpells
import Derived.WalkLawsBesides
import Derived.Deep.QuietTactic
import Derived.BigQuiet
import Derived.Handy
import Derived.Lib.Hide
/-
  Equations, by the reference. Conditions: lengths, a bounded depth.
-/
namespace Go.Proofs.YthnmcpfmljibeaaGreat
set_option maxRecDepth 100000
set_option linter.unusedVariables false
set_option linter.unusedSimpArgs false
open Go.RowKit

theorem fmq_take (split : Int) (zs : List Ex) (k : Nat) (z : Ex) (h : zs[k]? = some z) : (zs.take (k + 1)).filterMap (eqnE split) = (zs.take k).filterMap (eqnE split) ++ (eqnE split z).toList := by
  rw [List.take_add_one, h, List.filterMap_append]
  cases hc : eqnE split z <;> simp [hc]
set_option maxRecDepth 100000 in
set_option maxHeartbeats 6400000 in
theorem rEqns_any (d : Nat) (split : Int) (e : Ex) (u : Value) (w : World) (L : Nat) (h : RdE w L w.heap.size d u e.args) (hl : (conjE d e).length ≤ 1099511627776) :
    Calls Tryz.prog 19 #[exV e u, .int .i64 split] w fun e' w' => ∃ v, e' = .returned v ∧ RdU w' w.heap.size w'.heap.size v ((conjE d e).filterMap (eqnE split)) ∧ Below w.heap.size w w' := by
  obtain ⟨A, c, rfl, _⟩ := h.slice
  have b1 := bel_mk w (.cells (exA e (.slice A e.args.length c)) 26)
  have b2 := bel_mk (w.alloc (.cells (exA e (.slice A e.args.length c)) 26)) (.cells #[] 46)
  have HB := Lib.hid (b1.trans (b2.mono b1.size))
  have HE := Lib.hid ((Own.new w 26 (exA e (.slice A e.args.length c))).alloc (.cells #[] 46))
  have HR0 := Lib.hid (show ((w.alloc (.cells (exA e (.slice A e.args.length c)) 26)).alloc (.cells #[] 46)).ownsRow (w.heap.size + 1) 46 2 (.slice (some ⟨w.heap.size + 1, 0, none⟩) 0 0) ([] : List Pq).length (flatQ []) from by have h := World.ownsRow_lit (base := w.heap.size + 1) (e := 46) (size := 2) (w.alloc (.cells (exA e (.slice A e.args.length c)) 26)) #[] 0 (by simp) (by decide) rfl; simp only [World.size_alloc] at h; exact h)
  have HC := Lib.hid (rConj_any w w.heap.size L d (Nat.le_refl _) d (Nat.le_refl _) e (.slice A e.args.length c) _ HB.out h hl)
  have HL := Lib.hid hl
  clear b1 b2 h hl
  generalize hzs : conjE d e = zs at *
  clear hzs
  unfold exV exA at *
  have e0 := HE.out.cell 0
  have e1 := HE.out.cell 1
  have e2 := HE.out.cell 2
  have e3 := HE.out.cell 3
  have e4 := HE.out.cell 4
  have e5 := HE.out.cell 5
  have e6 := HE.out.cell 6
  go_enter Tryz.func19, Tryz.ntmps19
  go_wp2_with fail
  with_reducible refine HC.out.mono ?_
  rintro e' w2 ⟨ad, c2, ps, rfl, hm2, hk2, ha2, hc2, hb2⟩
  have HB2 := Lib.hid (HB.out.trans (hb2.mono HB.out.size))
  have HR2 := Lib.hid (own_below HR0.out hb2)
  have HM2 := Lib.hid hm2
  have HK2 := Lib.hid hk2
  have HC2 := Lib.hid hc2
  have hpl : ps.length = zs.length := by rw [← hm2, List.length_map]
  have HPL := Lib.hid hpl
  simp only [World.size_alloc] at ha2
  have HA2 := Lib.hid ha2
  clear e0 e1 e2 e3 e4 e5 e6 HC HE HB hb2 HR0 hm2 hk2 hc2 hpl ha2
  go_wp2_with fail
  go_loopw [5, 7] (fun vb i wr => ∃ k : Nat, k ≤ ps.length ∧ i = .int .i64 k ∧ Hid (wr.ownsRow (w.heap.size + 1) 46 2 vb ((zs.take k).filterMap (eqnE split)).length (flatQ ((zs.take k).filterMap (eqnE split))) ∧ (∀ b, vb.ownBlock = some b → b ≠ ad.block) ∧ ∀ j u, (flatE ps)[j]? = some u → wr.cell? (ad.add j) = some u) ∧ Below w.heap.size w wr) (fun _ i _ => ps.length - (intOf i).toNat)
  case atStart =>
    have ho0 : ∀ b, (Value.slice (some ⟨w.heap.size + 1, 0, none⟩) 0 0).ownBlock = some b → b ≠ ad.block := fun b hb => by
      have e : w.heap.size + 1 = b := by simpa [Value.ownBlock] using hb
      have := HA2.out
      omega
    exact ⟨0, Nat.zero_le _, rfl, Lib.hid ⟨HR2.out, ho0, HC2.out⟩, HB2.out⟩
  case round =>
    clear HR2 HC2 HB2
    obtain ⟨k, hk, rfl, HQ, hbr⟩ := hrel
    have hbz := hbr.size
    obtain ⟨hrow, hown, hcel⟩ := HQ.out
    obtain ⟨Av, cv, rfl⟩ := ownQ_shape hrow
    by_cases hlt : k < ps.length
    · have hki : (k : Int) < ps.length := by omega
      have hkl : (k : Int) + 1 ≤ 1099511627776 := by have := HPL.out; have := HL.out; omega
      have hwr : wrap64 ((k : Int) + 1) = (k : Int) + 1 := by unfold wrap64; omega
      have hpk := List.getElem?_eq_getElem hlt
      have hzk : zs[k]? = some (ps[k]).1 := by rw [← HM2.out, List.getElem?_map, hpk]; rfl
      have hft := fmq_take split zs k _ hzk
      have hkid := HK2.out _ (List.getElem_mem hlt)
      have G := fun j hj u hu => hcel (k * 7 + j) u ((flatE_get ps k _ hpk j hj).trans hu)
      have hadd : ∀ j, j ≠ 0 → ad.add (k * 7 + j) = ⟨(ad.add (k * 7)).block, (ad.add (k * 7)).off + j, none⟩ := fun j hj => by
        rw [add_blk]
        unfold Addr.add
        rw [if_neg (by omega)]
        split <;> simp <;> omega
      have hll : ((zs.take k).filterMap (eqnE split)).length ≤ 1099511627776 := by have h1 := fmq_le split (zs.take k); have h2 := HL.out; simp only [List.length_take] at h1; omega
      generalize ps[k] = p at *
      obtain ⟨⟨q0, q1, ⟨q2, q3, q4⟩, q5, q6⟩, u⟩ := p
      dsimp only at hkid
      obtain ⟨A3, c3, rfl, hl3⟩ := hkid.slice
      have x0 := G 0 (by decide) _ rfl
      have x1 := G 1 (by decide) _ rfl
      have x2 := G 2 (by decide) _ rfl
      have x3 := G 3 (by decide) _ rfl
      have x4 := G 4 (by decide) _ rfl
      have x5 := G 5 (by decide) _ rfl
      have x6 := G 6 (by decide) _ rfl
      rw [Nat.add_zero] at x0
      rw [hadd 1 (by decide)] at x1
      rw [hadd 2 (by decide)] at x2
      rw [hadd 3 (by decide)] at x3
      rw [hadd 4 (by decide)] at x4
      rw [hadd 5 (by decide)] at x5
      rw [hadd 6 (by decide)] at x6
      have hlta := World.block_lt_of_cell? wr _ x0
      rw [add_blk] at hlta
      have HFT := Lib.hid hft
      have HRow := Lib.hid hrow
      have HOwn := Lib.hid hown
      have HCel := Lib.hid hcel
      have HLL := Lib.hid hll
      have hle : w.heap.size + 1 ≤ wr.heap.size := by have := HA2.out; omega
      have HGE := Lib.hid (show ∀ b, (Value.slice Av ((zs.take k).filterMap (eqnE split)).length cv).ownBlock = some b → w.heap.size + 1 ≤ b from fun b hb => (hrow.lt b hb).1)
      have hkw := hkid.step hbr (Nat.le_refl _)
      clear hft hkid G hadd hrow hown hcel HQ hpk hzk hll
      by_cases h7 : q0 = 7
      · subst h7
        by_cases h2 : q6.length = 2
        · match q6, h2, hkw with
          | [a, b], _, hkw =>
            obtain ⟨d', rfl⟩ : ∃ d', d = d' + 1 := ⟨d - 1, by have := hkw.pos; omega⟩
            obtain ⟨A', c', hv', _, hc⟩ := hkw
            obtain ⟨ad5, ua, rfl, _, hab, hxa, hra⟩ := hc 0 a rfl
            obtain ⟨ad6, ub, hA2, _, _, hxb, hrb⟩ := hc 1 b rfl
            injection hv' with hv1 hv2 hv3
            subst hv1 hv3
            injection hA2 with hA2
            subst hA2
            rw [show (0 : Nat) * 7 = 0 from rfl, show ad5.add 0 = ad5 by unfold Addr.add; simp] at hxa
            rw [show (1 : Nat) * 7 = 7 from rfl, show ad5.add 7 = ⟨ad5.block, ad5.off + 7, none⟩ by unfold Addr.add; simp] at hxb
            obtain ⟨a0, a1, a2, a3, a4, a5, a6⟩ := hxa
            obtain ⟨b0, b1, b2, b3, b4, b5, b6⟩ := hxb
            rw [eqn_two] at HFT
            replace x0 : wr.cell? (ad.add (k * 7)) = some (.int .i64 7) := x0
            replace x6 : wr.cell? ⟨(ad.add (k * 7)).block, (ad.add (k * 7)).off + 6, none⟩ = some (.slice (some ad5) 2 c3) := x6
            dsimp only at b1
            clear hra hrb hc a2 a3 a4 a5 a6 b2 b3 b4 b5 b6 x1 x2 x3 x4 x5 hv2 hl3
            by_cases ha : a.op = 2
            · rw [ha] at a0
              by_cases hb : b.op = 2
              · rw [hb] at b0
                by_cases h1 : min a.n b.n < split
                · by_cases h2 : split ≤ max a.n b.n
                  · rw [if_pos ⟨rfl, ha, hb, h1, h2⟩] at HFT
                    simp only [Option.toList_some] at HFT
                    generalize a.n = p at *
                    generalize b.n = q at *
                    generalize hcn : (zs.take k).filterMap (eqnE split) = cn at *
                    have HR1 := Lib.hid (own_below HRow.out (bel_mk wr (.cells #[.int .i64 (min p q), .int .i64 (max p q)] 46)))
                    have HB1 := Lib.hid (hbr.trans ((bel_mk wr (.cells #[.int .i64 (min p q), .int .i64 (max p q)] 46)).mono hbz))
                    have HC1 := Lib.hid (show ∀ j u, (flatE ps)[j]? = some u → (wr.alloc (.cells #[.int .i64 (min p q), .int .i64 (max p q)] 46)).cell? (ad.add j) = some u from fun j u hj => ((bel_mk wr _).cell (by rw [add_blk]; exact hlta)).trans (HCel.out j u hj))
                    clear HRow
                    go_wp2_with (at_builtin; refine append_q1 _ rfl _ _ rfl (w.heap.size + 1) _ cn rfl HR1.out wr.heap.size 1 (min p q, max p q) rfl (lit_q wr (min p q, max p q)) HLL.out (by simp only [World.size_alloc]; omega) ?_; intro g3 cap3 w3 hr3 hg3 hv3; have HR5 := Lib.hid hr3; have HG5 := Lib.hid hg3; have HV5 := Lib.hid hv3; clear hr3 hg3 hv3)
                    have HB5 := Lib.hid (HB1.out.grown HG5.out (by simp only [World.size_alloc]; omega) (fun b hb => by have := HGE.out b hb; omega))
                    have hCel5 : ∀ j u, (flatE ps)[j]? = some u → w3.cell? (ad.add j) = some u := fun j u hj => (World.grownBy.cell_far HG5.out (ad.add j) (by rw [add_blk]; simp only [World.size_alloc]; omega) (fun e => by rw [add_blk] at e; exact HOwn.out _ e.symm rfl)).trans (HC1.out j u hj)
                    have hown5 : ∀ b, (Value.slice (some ⟨g3, 0, none⟩) (cn.length + 1) cap3).ownBlock = some b → b ≠ ad.block := fun b hb => by
                      injection hb with hb
                      subst hb
                      rcases HV5.out with h | h
                      · exact HOwn.out _ h
                      · rw [h]; simp only [World.size_alloc]; omega
                    have HN5 := Lib.hid hCel5
                    have HO5 := Lib.hid hown5
                    clear hCel5 hown5
                    go_roundw
                    case rel => exact ⟨k + 1, by omega, by go_num, Lib.hid ⟨by rw [HFT.out]; have h := HR5.out; rw [List.length_append] at h ⊢; exact h, HO5.out, HN5.out⟩, HB5.out⟩
                    case measure => simp [intOf]; omega
                  · rw [if_neg (fun h => h2 h.2.2.2.2)] at HFT
                    simp only [Option.toList_none, List.append_nil] at HFT
                    have h3 : ¬ max a.n b.n ≥ split := h2
                    go_wp2
                    go_roundw
                    case rel => exact ⟨k + 1, by omega, by go_num, Lib.hid ⟨by rw [HFT.out]; exact HRow.out, HOwn.out, HCel.out⟩, hbr⟩
                    case measure => simp [intOf]; omega
                · rw [if_neg (fun h => h1 h.2.2.2.1)] at HFT
                  simp only [Option.toList_none, List.append_nil] at HFT
                  go_wp2
                  go_roundw
                  case rel => exact ⟨k + 1, by omega, by go_num, Lib.hid ⟨by rw [HFT.out]; exact HRow.out, HOwn.out, HCel.out⟩, hbr⟩
                  case measure => simp [intOf]; omega
              · rw [if_neg (fun h => hb h.2.2.1)] at HFT
                simp only [Option.toList_none, List.append_nil] at HFT
                have hb2 : (b.op != 2) = true := by rw [bne_iff_ne]; exact hb
                clear ha hb
                generalize b.op = bo at *
                generalize b.n = bn at *
                generalize a.n = an at *
                go_wp2
                go_roundw
                case rel => exact ⟨k + 1, by omega, by go_num, Lib.hid ⟨by rw [HFT.out]; exact HRow.out, HOwn.out, HCel.out⟩, hbr⟩
                case measure => simp [intOf]; omega
            · rw [if_neg (fun h => ha h.2.1)] at HFT
              simp only [Option.toList_none, List.append_nil] at HFT
              have ha2 : (a.op == 2) = false := by rw [beq_eq_false_iff_ne]; exact ha
              go_wp2
              go_roundw
              case rel => exact ⟨k + 1, by omega, by go_num, Lib.hid ⟨by rw [HFT.out]; exact HRow.out, HOwn.out, HCel.out⟩, hbr⟩
              case measure => simp [intOf]; omega
        · rw [eqn_len split _ h2] at HFT
          simp only [Option.toList_none, List.append_nil] at HFT
          have hl4 : ¬ (q6.length : Int) = 2 := by omega
          have hl3 : ((q6.length : Int) == 2) = false := by rw [beq_eq_false_iff_ne]; exact hl4
          clear hkw x1 x2 x3 x4 x5
          go_wp2
          go_roundw
          case rel => exact ⟨k + 1, by omega, by go_num, Lib.hid ⟨by rw [HFT.out]; exact HRow.out, HOwn.out, HCel.out⟩, hbr⟩
          case measure => simp [intOf]; omega
      · rw [eqn_op split _ h7] at HFT
        simp only [Option.toList_none, List.append_nil] at HFT
        have h7b : (q0 == 7) = false := by rw [beq_eq_false_iff_ne]; exact h7
        clear hkw x1 x2 x3 x4 x5
        go_wp2
        go_roundw
        case rel => exact ⟨k + 1, by omega, by go_num, Lib.hid ⟨by rw [HFT.out]; exact HRow.out, HOwn.out, HCel.out⟩, hbr⟩
        case measure => simp [intOf]; omega
    · have hki : ¬ (k : Int) < ps.length := by omega
      have HRow := Lib.hid (show wr.ownsRow (w.heap.size + 1) 46 2 (.slice Av ((zs.take k).filterMap (eqnE split)).length cv) (zs.filterMap (eqnE split)).length (flatQ (zs.filterMap (eqnE split))) from by
        have h := hrow
        rw [List.take_of_length_le (by have := HPL.out; omega)] at h ⊢
        exact h)
      have HBR := Lib.hid hbr
      have HZ := Lib.hid (show (zs.filterMap (eqnE split)).length ≤ 1099511627776 from by have h1 := fmq_le split zs; have h2 := HL.out; omega)
      clear hrow hown hcel HQ hbr
      go_wp2
      go_ret
      exact ⟨_, rfl, (rdU_own HRow.out HZ.out).more (Nat.le_refl _) (by omega), HBR.out⟩
end Go.Proofs.YthnmcpfmljibeaaGreat
