import Derived.Test.YthnmcpfmljibeaaGreatPNc
import Derived.Test.YthnmcpfmljibeaaGreatPRh
import Derived.WalkKit
import Derived.WalkSpells
import Derived.WalkLawsBesides
import Derived.Deep.QuietTactic
import Derived.BigQuiet
import Derived.Handy
import Derived.Lib.Hide
import Derived.Test.YthnmcpfmljibeaaGreatPN
import Derived.Test.YthnmcpfmljibeaaGreatPAw
import Derived.Test.YthnmcpfmljibeaaGreatPO
/-
  The reference's Never. Conditions: valid values, lengths, a bounded depth.
-/
namespace Go.Proofs.YthnmcpfmljibeaaGreat
set_option maxRecDepth 100000
set_option linter.unusedVariables false
set_option linter.unusedSimpArgs false
open Go.RowKit

theorem nevA_not (e : Ex) (h : e.op ≠ 1) : nevA e = false := by
  unfold nevA
  rw [show (e.op == 1) = false from by rw [beq_eq_false_iff_ne]; exact h]
  rfl
theorem anyE_take (zs : List Ex) (f : Ex → Bool) (j : Nat) (x : Ex) (h : zs[j]? = some x) : (zs.take (j + 1)).any f = ((zs.take j).any f || f x) := by
  rw [List.take_add_one, h, List.any_append]
  simp
theorem anyE_has (zs : List Ex) (f : Ex → Bool) (j : Nat) (x : Ex) (h : zs[j]? = some x) (hf : f x = true) : zs.any f = true := List.any_eq_true.2 ⟨x, List.mem_of_getElem? h, hf⟩
set_option maxRecDepth 100000 in
set_option maxHeartbeats 12800000 in
theorem rNev_any (d : Nat) (e : Ex) (u : Value) (w : World) (L : Nat) (h : RdE w L w.heap.size d u e.args) (hl : (conjE d e).length ≤ 1099511627776) :
    Calls Tryz.prog 21 #[exV e u] w fun e' w' => e' = .returned (.bool (nevR (conjE d e))) ∧ Below w.heap.size w w' := by
  obtain ⟨A, c, rfl, _⟩ := h.slice
  have b1 := bel_mk w (.cells (exA e (.slice A e.args.length c)) 26)
  have HB := Lib.hid b1
  have HE := Lib.hid (Own.new w 26 (exA e (.slice A e.args.length c)))
  have HC := Lib.hid (rConj_any w w.heap.size L d (Nat.le_refl _) d (Nat.le_refl _) e (.slice A e.args.length c) _ HB.out h hl)
  have HCO := Lib.hid (fun (W : World) (hb : Below w.heap.size w W) => rConds_any d e (.slice A e.args.length c) W L (h.step hb (Nat.le_refl _)) hl)
  have HL := Lib.hid hl
  have HVL := Lib.hid (show ∀ z ∈ (conjE d e).filterMap condE, vldP z.v = true from fun z hz => by
    obtain ⟨x, _, hx⟩ := List.mem_filterMap.1 hz
    exact (cond_vld hx).1)
  clear b1 h hl
  generalize hzs : conjE d e = zs at *
  have HNR := Lib.hid (show nevR zs = (zs.any nevA || (zs.filterMap condE).any fun x => conR (onC (zs.filterMap condE) x.col)) from rfl)
  generalize nevR zs = res at *
  clear hzs
  unfold exV exA at *
  have e0 := HE.out.cell 0
  have e1 := HE.out.cell 1
  have e2 := HE.out.cell 2
  have e3 := HE.out.cell 3
  have e4 := HE.out.cell 4
  have e5 := HE.out.cell 5
  have e6 := HE.out.cell 6
  go_enter Tryz.func21, Tryz.ntmps21
  go_wp2_with fail
  with_reducible refine HC.out.mono ?_
  rintro e' w2 ⟨ad, c2, ps, rfl, hm2, hk2, ha2, hc2, hb2⟩
  have HB2 := Lib.hid (HB.out.trans (hb2.mono HB.out.size))
  have HE2 := Lib.hid (HE.out.below hb2 HE.out.lt)
  have HM2 := Lib.hid hm2
  have HK2 := Lib.hid hk2
  have HC2 := Lib.hid hc2
  have hpl : ps.length = zs.length := by rw [← hm2, List.length_map]
  have HPL := Lib.hid hpl
  clear e0 e1 e2 e3 e4 e5 e6 HC HE HB hb2 hm2 hk2 hc2 hpl ha2
  go_wp2_with fail
  go_loopw [4] (fun i wr => ∃ k : Nat, k ≤ ps.length ∧ i = .int .i64 k ∧ Hid ((zs.take k).any nevA = false) ∧ Below w2.heap.size w2 wr) (fun i _ => ps.length - (intOf i).toNat)
  case atStart => exact ⟨0, Nat.zero_le _, rfl, Lib.hid rfl, Below.refl _ _⟩
  case round =>
    obtain ⟨k, hk, rfl, HQ, hbr⟩ := hrel
    have hbz := hbr.size
    have HBr := Lib.hid (HB2.out.trans (hbr.mono HB2.out.size))
    by_cases hlt : k < ps.length
    · have hki : (k : Int) < ps.length := by omega
      have hkl : (k : Int) + 1 ≤ 1099511627776 := by have := HPL.out; have := HL.out; omega
      have hpk := List.getElem?_eq_getElem hlt
      have hzk : zs[k]? = some (ps[k]).1 := by rw [← HM2.out, List.getElem?_map, hpk]; rfl
      have hat := anyE_take zs nevA k _ hzk
      have hah := anyE_has zs nevA k _ hzk
      have hkid := HK2.out _ (List.getElem_mem hlt)
      have G := fun j hj u hu => HC2.out (k * 7 + j) u ((flatE_get ps k _ hpk j hj).trans hu)
      have hadd : ∀ j, j ≠ 0 → ad.add (k * 7 + j) = ⟨(ad.add (k * 7)).block, (ad.add (k * 7)).off + j, none⟩ := fun j hj => by
        rw [add_blk]
        unfold Addr.add
        rw [if_neg (by omega)]
        split <;> simp <;> omega
      generalize ps[k] = p at *
      obtain ⟨⟨q0, q1, ⟨q2, q3, q4⟩, q5, q6⟩, u⟩ := p
      dsimp only at hkid hat hah hzk
      obtain ⟨A3, c3, rfl, hl3⟩ := hkid.slice
      have x0 := G 0 (by decide) _ rfl
      have x1 := G 1 (by decide) _ rfl
      have x2 := G 2 (by decide) _ rfl
      have x3 := G 3 (by decide) _ rfl
      have x4 := G 4 (by decide) _ rfl
      have x5 := G 5 (by decide) _ rfl
      have x6 := G 6 (by decide) _ rfl
      rw [Nat.add_zero] at x0
      rw [hadd 1 (by decide)] at x1
      rw [hadd 2 (by decide)] at x2
      rw [hadd 3 (by decide)] at x3
      rw [hadd 4 (by decide)] at x4
      rw [hadd 5 (by decide)] at x5
      rw [hadd 6 (by decide)] at x6
      have hlta := World.block_lt_of_cell? w2 _ x0
      rw [add_blk] at hlta
      replace x0 := (hbr.cell (p := ad.add (k * 7)) (by rw [add_blk]; exact hlta)).trans x0
      replace x1 := (hbr.cell (p := ⟨(ad.add (k * 7)).block, _, none⟩) (by rw [add_blk]; exact hlta)).trans x1
      replace x2 := (hbr.cell (p := ⟨(ad.add (k * 7)).block, _, none⟩) (by rw [add_blk]; exact hlta)).trans x2
      replace x3 := (hbr.cell (p := ⟨(ad.add (k * 7)).block, _, none⟩) (by rw [add_blk]; exact hlta)).trans x3
      replace x4 := (hbr.cell (p := ⟨(ad.add (k * 7)).block, _, none⟩) (by rw [add_blk]; exact hlta)).trans x4
      replace x5 := (hbr.cell (p := ⟨(ad.add (k * 7)).block, _, none⟩) (by rw [add_blk]; exact hlta)).trans x5
      replace x6 := (hbr.cell (p := ⟨(ad.add (k * 7)).block, _, none⟩) (by rw [add_blk]; exact hlta)).trans x6
      dsimp only at x0 x1 x2 x3 x4 x5 x6
      have HAT := Lib.hid hat
      have HAH := Lib.hid hah
      clear hpk hzk hat hah hkid G hadd
      by_cases h1 : q0 = 1
      · subst h1
        have HT := Lib.hid (fun W => rTru1_any q1 q2 q3 q4 q5 q6 A3 c3 (.slice none 0 0) W hl3)
        have HNA := Lib.hid (show nevA ⟨1, q1, (q2, q3, q4), q5, q6⟩ = (truP (evE [] 1 ⟨1, q1, (q2, q3, q4), q5, q6⟩) != 2) from rfl)
        generalize truP (evE [] 1 ⟨1, q1, (q2, q3, q4), q5, q6⟩) = t at *
        by_cases ht : t = 2
        · subst ht
          have HQ2 := Lib.hid (show (zs.take (k + 1)).any nevA = false from by rw [HAT.out, HQ.out, HNA.out]; rfl)
          clear HQ HAH HAT HNA
          go_wp2_with fail
          with_reducible refine (HT.out _).mono ?_
          rintro e' w4 ⟨rfl, hb4⟩
          clear x0 x1 x2 x3 x4 x5 x6
          go_wp2
          go_roundw
          case rel => exact ⟨k + 1, by omega, by go_num, HQ2, hbr.trans (hb4.mono hbz)⟩
          case measure => simp [intOf]; omega
        · have htb : (t != 2) = true := by rw [bne_iff_ne]; exact ht
          have HRS := Lib.hid (show res = true from by rw [HNR.out, HAH.out (by rw [HNA.out]; exact htb)]; rfl)
          clear HQ HAH HAT HNA HNR ht
          go_wp2_with fail
          with_reducible refine (HT.out _).mono ?_
          rintro e' w4 ⟨rfl, hb4⟩
          clear x0 x1 x2 x3 x4 x5 x6
          go_wp2
          go_ret
          exact ⟨by rw [HRS.out]; rfl, HBr.out.trans (hb4.mono HBr.out.size)⟩
      · have h1b : (q0 == 1) = false := by rw [beq_eq_false_iff_ne]; exact h1
        have HQ2 := Lib.hid (show (zs.take (k + 1)).any nevA = false from by rw [HAT.out, HQ.out, nevA_not _ h1]; rfl)
        clear HQ HAH HAT h1
        go_wp2
        go_roundw
        case rel => exact ⟨k + 1, by omega, by go_num, HQ2, hbr⟩
        case measure => simp [intOf]; omega
    · have hki : ¬ (k : Int) < ps.length := by omega
      have HN1 := Lib.hid (show res = (zs.filterMap condE).any fun x => conR (onC (zs.filterMap condE) x.col) from by
        rw [HNR.out]
        have h := HQ.out
        rw [List.take_of_length_le (by have := HPL.out; omega)] at h
        rw [h]
        rfl)
      have HEr := Lib.hid (HE2.out.below hbr HE2.out.lt)
      have HCR := Lib.hid (HCO.out wr HBr.out)
      have HLC := Lib.hid (show (zs.filterMap condE).length ≤ 1099511627776 from by have h1 := filterMap_le zs; have h2 := HL.out; omega)
      clear HNR HQ HE2 HCO hlt hk hbr HB2 HM2 HK2 HC2 HPL hbz HL
      generalize zs.filterMap condE = cs at *
      have e0 := HEr.out.cell 0
      have e1 := HEr.out.cell 1
      have e2 := HEr.out.cell 2
      have e3 := HEr.out.cell 3
      have e4 := HEr.out.cell 4
      have e5 := HEr.out.cell 5
      have e6 := HEr.out.cell 6
      go_wp2_with fail
      with_reducible refine HCR.out.mono ?_
      rintro e' w5 ⟨v5, rfl, hr5, hb5⟩
      have HB5 := Lib.hid (HBr.out.trans (hb5.mono HBr.out.size))
      have HR5 := Lib.hid hr5
      obtain ⟨A5, c5, rfl, _, _⟩ := hr5
      clear e0 e1 e2 e3 e4 e5 e6 HEr HCR hb5 HBr hki
      go_wp2_with fail
      go_loopw [6] (fun i wx => ∃ j : Nat, j ≤ cs.length ∧ i = .int .i64 j ∧ Hid ((cs.take j).any (fun x => conR (onC cs x.col)) = false) ∧ Below w5.heap.size w5 wx) (fun i _ => cs.length - (intOf i).toNat)
      case atStart => exact ⟨0, Nat.zero_le _, rfl, Lib.hid rfl, Below.refl _ _⟩
      case round =>
        obtain ⟨j, hj, rfl, HJ, hbr⟩ := hrel
        have hbz := hbr.size
        by_cases hjl : j < cs.length
        · have hji : (j : Int) < cs.length := by omega
          have hjs : (j : Int) + 1 ≤ 1099511627776 := by have := HLC.out; omega
          have hzj := List.getElem?_eq_getElem hjl
          have hat := any_take cs (fun x => conR (onC cs x.col)) j _ hzj
          have hah := any_has cs (fun x => conR (onC cs x.col)) j _ hzj
          obtain ⟨adx, cx, hsl, _, hax, y0, y1, y2, y3, y4⟩ := (HR5.out.below hbr).at j _ hzj
          injection hsl with hs1 hs2 hs3
          subst hs1 hs3
          generalize cs[j] = x at *
          have HOn := Lib.hid (rOn_any (.slice (some adx) cs.length c5) cs x.col wr _ (HR5.out.step hbr (Nat.le_refl _)))
          have HVO := Lib.hid (show ∀ z ∈ onC cs x.col, vldP z.v = true from fun z hz => HVL.out z (List.mem_filter.1 hz).1)
          have HAT := Lib.hid hat
          have HAH := Lib.hid hah
          clear hat hah hzj hs2 y0 y2 y3 y4
          generalize hls : onC cs x.col = ls at *
          go_wp2_with fail
          with_reducible refine HOn.out.mono ?_
          rintro e' w6 ⟨v6, rfl, hr6, hb6⟩
          have HCn := Lib.hid (rCon_any v6 ls w6 _ hr6 HVO.out)
          have hb6' := hbr.trans (hb6.mono hbz)
          obtain ⟨A6, c6, rfl, _, _⟩ := hr6
          clear hb6 y1
          cases hcr : conR ls
          · rw [hcr] at HCn
            have HJ2 := Lib.hid (show (cs.take (j + 1)).any (fun x => conR (onC cs x.col)) = false from by rw [HAT.out, HJ.out, hcr]; rfl)
            clear HJ HAT HAH hcr
            go_wp2_with fail
            with_reducible refine HCn.out.mono ?_
            rintro e' w7 ⟨rfl, hb7⟩
            go_wp2
            go_roundw
            case rel => exact ⟨j + 1, by omega, by go_num, HJ2, hb6'.trans (hb7.mono hb6'.size)⟩
            case measure => simp [intOf]; omega
          · rw [hcr] at HCn
            have HRS := Lib.hid (show res = true from by rw [HN1.out]; exact HAH.out hcr)
            clear HJ HAT HAH hcr HN1
            go_wp2_with fail
            with_reducible refine HCn.out.mono ?_
            rintro e' w7 ⟨rfl, hb7⟩
            go_wp2
            go_ret
            exact ⟨by rw [HRS.out]; rfl, HB5.out.trans ((hb6'.trans (hb7.mono hb6'.size)).mono HB5.out.size)⟩
        · have hji : ¬ (j : Int) < cs.length := by omega
          have HRS := Lib.hid (show res = false from by
            rw [HN1.out]
            have h := HJ.out
            rwa [List.take_of_length_le (by omega)] at h)
          clear HJ HN1
          go_wp2
          go_ret
          exact ⟨by rw [HRS.out]; rfl, HB5.out.trans (hbr.mono HB5.out.size)⟩
end Go.Proofs.YthnmcpfmljibeaaGreat
/-
  The walk of the statement PredicateNever. Conditions: a bounded depth, few conjuncts, columns that are ints.
-/
namespace Go.Proofs.YthnmcpfmljibeaaGreat
set_option maxRecDepth 100000
set_option linter.unusedVariables false
set_option linter.unusedSimpArgs false
open Go.RowKit

theorem okX_conj : ∀ (d : Nat) (e : Ex), (∀ m, okX m e) → ∀ x ∈ conjE d e, ∀ m, okX m x
  | 0, e, _, x, hx => by unfold conjE at hx; cases hx
  | d + 1, e, h, x, hx => by
    by_cases h1 : e.op = 5 ∧ wfX e = true
    · rw [conjE_and d e h1] at hx
      obtain ⟨a, ha, hx⟩ := List.mem_flatMap.1 hx
      exact okX_conj d a (fun m => (h (m + 1)).2 a ha) x hx
    · rw [conjE_leaf d e h1] at hx
      rw [List.mem_singleton.1 hx]
      exact h
theorem cond_wf {e : Ex} {c : Cnd} (ho : ∀ m, okX m e) (h : condE e = some c) : (Lit.int .i64 c.col).wf = true := by
  have hc : ∀ op a b, cndO op a b = some c → c.col = a.n := fun op a b h => by
    unfold cndO at h
    split at h
    · injection h with h
      subst h
      rfl
    · cases h
  have hm : ∀ a ∈ e.args, (Lit.int .i64 a.n).wf = true := fun a ha => ((ho 2).2 a ha).1
  unfold condE at h
  split at h
  · rename_i a b hab
    rw [hab] at hm
    split at h
    · split at h
      · rw [hc _ _ _ h]; exact hm b (by simp)
      · rw [hc _ _ _ h]; exact hm a (by simp)
    · cases h
  · cases h
theorem wf_conds (d : Nat) (e : Ex) (ho : ∀ m, okX m e) : ∀ z ∈ (conjE d e).filterMap condE, (Lit.int .i64 z.col).wf = true := fun z hz => by
  obtain ⟨x, hx, hz⟩ := List.mem_filterMap.1 hz
  exact cond_wf (okX_conj d e ho x hx) hz
set_option maxRecDepth 100000 in
set_option maxHeartbeats 6400000 in
theorem law_never (d : Nat) (e : Ex) (A : Option Addr) (c : Nat) (w : World) (h : RdE w 0 w.heap.size d (.slice A e.args.length c) e.args) (hl : (conjE d e).length ≤ 1099511627776) (hwf : ∀ z ∈ (conjE d e).filterMap condE, (Lit.int .i64 z.col).wf = true) :
    Calls Tryz.prog 5 #[exV e (.slice A e.args.length c)] w fun e' w' => e' = .returned (.bool true) ∧ Below w.heap.size w w' := by
  have b1 := bel_mk w (.cells (exA e (.slice A e.args.length c)) 26)
  have oa := Own.new w 26 (exA e (.slice A e.args.length c))
  obtain ⟨x0, x1, x2, x3, x4, x5, x6⟩ := ex_cells oa.lt oa
  have RA := h.step b1 (Nat.le_refl _)
  have HB := Lib.hid b1
  have HBS := Lib.hid b1.size
  clear b1 oa h
  generalize hWW : w.alloc (.cells (exA e (.slice A e.args.length c)) 26) = W at *
  have H1 := Lib.hid (fun r : After W => pNev_any d e (.slice A e.args.length c) r.w 0 (RA.step r.h (Nat.le_refl _)) hl hwf)
  have H2 := Lib.hid (fun r : After W => rNev_any d e (.slice A e.args.length c) r.w 0 (RA.step r.h (Nat.le_refl _)) hl)
  have H5 := Lib.hid (fun r : After W => awakeL_any r.w)
  rw [nev_eq] at H1
  generalize nevR (conjE d e) = b at *
  unfold exA exV at *
  clear RA hl hwf
  cases b
  all_goals
    go_enter Tryz.func5, Tryz.ntmps5
    go_wp2_with fail
    (refine wp_region_after (by kernel_rfl) (by kernel_rfl) ?_; (repeat (go_big_quiet_step (first | (go_at_call 20; exact calls_after (H1.out _)) | (go_at_call 21; exact calls_after (H2.out _)) | (go_at_call 15; exact calls_after (H5.out _))))); refine wpQuiet_nil ?_; intro wq hw0; obtain ⟨⟨wq0, hbq⟩, hw1⟩ := hw0; subst hw1; (try dsimp only))
    go_wp2
    go_ret
    exact ⟨by first | rfl | simp, HB.out.trans (hbq.mono HBS.out)⟩
end Go.Proofs.YthnmcpfmljibeaaGreat
