import Derived.Test.YtdhemhmgenhmaaaGreatSPdZe
import Derived.Test.YtdhemhmgenhmaaaGreatSPdZm
import Derived.Test.YtdhemhmgenhmaaaGreatPKb
import Derived.Test.YtdhemhmgenhmaaaGreatSExJh
import Derived.Test.YtdhemhmgenhmaaaGreatUA
import Derived.Test.YtdhemhmgenhmaaaGreatPAw
import Derived.WalkKit
import Derived.WalkSpells
import Derived.WalkLawsBesides
import Derived.Deep.QuietTactic
import Derived.BigQuiet
import Derived.Handy
import Derived.Lib.Hide
set_option maxRecDepth 100000
set_option maxHeartbeats 25600000
set_option linter.unusedVariables false
set_option linter.unusedSimpArgs false
/-
  The walk of the statement PredicateSimplifies. Conditions: a bounded depth, few nodes. (Written by mkPdZl.py.)
-/
namespace Go.Proofs.YtdhemhmgenhmaaaGreat
open Go.RowKit
theorem ownZ_shape {w : World} {base n : Nat} {v : Value} {xs : List Value} (h : w.ownsRow base 3 1 v n xs) : ∃ Av cv, v = .slice Av n cv := by
 rcases h.2 with ⟨rfl, rfl⟩ | ⟨g, cap, cur, rfl, _⟩
 ·exact ⟨none, 0, rfl⟩
 ·exact ⟨_, _, rfl⟩
theorem law_simplifies (d : Nat) (e : Ex) (A : Option Addr) (c : Nat) (rv : Value) (row : List Vl) (v : Value) (zs : List Int) (w : World) (h : RdE w 0 w.heap.size d (.slice A e.args.length c) e.args) (hn : nodE d e ≤ 1099511627775) (hd : d ≤ 1048576) (hr : RdV w 0 w.heap.size rv row) (hz : RdI w 0 w.heap.size v zs) :
  Calls Tryz.prog 3 #[exV e (.slice A e.args.length c), rv, v] w fun e' w' => e' = .returned (.bool true) ∧ Below w.heap.size w w' := by
 have HFI : Ex.Fin d e := by
  obtain ⟨d, rfl⟩ : ∃ k, d = k + 1 := ⟨d - 1, by have := h.pos; omega⟩
  exact fun a ha => (RdE.fin h a ha) a ha
 have hsim := sim_ok d e HFI
 have M1 := Lib.hid (hsim.2 row)
 have MW := Lib.hid (wt_wf hsim.1)
 have hnod := nod_sim d e HFI
 have hdep := dep_sim d e HFI
 have hcol := sim_nocol d e HFI
 have hknd := fun k hk => knd_sim zs d e k HFI hk
 have HSI := Lib.hid (pSim_any d e (.slice A e.args.length c) (w.alloc (.cells (exA e (.slice A e.args.length c)) 26)) 0 (h.step (bel_mk w _) (Nat.le_refl _)))
 generalize simE d e = r at *
 have MC := Lib.hid (show refE d e = [] → r.op = 1 from fun hc => hcol (List.eq_nil_iff_forall_not_mem.2 fun x hx => by
  have h1 := ((refE_asc d e).2 x).2 hx
  rw [hc] at h1
  cases h1))
 have MK := Lib.hid (show ∀ k, chkT zs d e = (k, 0) → ∃ m, chkT zs d r = (m, 0) ∧ (m = k ∨ m = 0) from fun k hk => by
  unfold chkT at hk ⊢
  by_cases h24 : 24 < depE d e
  ·rw [if_pos h24] at hk
   injection hk with _ h2
   exact absurd h2 (by decide)
  ·rw [if_neg h24] at hk
   rw [if_neg (by omega)]
   exact hknd k hk)
 obtain ⟨n1, hn1⟩ : ∃ n1 : Int, ((nodE d r : Nat) : Int) = n1 := ⟨_, rfl⟩
 obtain ⟨n2, hn2⟩ : ∃ n2 : Int, ((nodE d e : Nat) : Int) = n2 := ⟨_, rfl⟩
 obtain ⟨d1, hd1⟩ : ∃ d1 : Int, ((min (depE d r) 25 : Nat) : Int) = d1 := ⟨_, rfl⟩
 obtain ⟨d2, hd2⟩ : ∃ d2 : Int, ((min (depE d e) 25 : Nat) : Int) = d2 := ⟨_, rfl⟩
 have MN1 := Lib.hid hn1
 have MN2 := Lib.hid hn2
 have MD1 := Lib.hid hd1
 have MD2 := Lib.hid hd2
 have HN12 := Lib.hid (show decide (n2 < n1) = false from decide_eq_false (by omega))
 have HD12 := Lib.hid (show decide (d2 < d1) = false from decide_eq_false (by omega))
 have MN := Lib.hid hnod
 obtain ⟨ev, hev⟩ : ∃ ev, evE row d e = ev := ⟨_, rfl⟩
 obtain ⟨ev1, ev2, ev3⟩ := ev
 have M0 := Lib.hid hev
 replace M1 := Lib.hid (M1.out.trans hev)
 have HRE := Lib.hid h
 have HRV := Lib.hid hr
 have HRI := Lib.hid hz
 have TA := Lib.hid (fun W => awakeL_any W)
 have HB := Lib.hid (bel_mk w (.cells (exA e (.slice A e.args.length c)) 26))
 have HO := Lib.hid (Own.new w 26 (exA e (.slice A e.args.length c)))
 obtain ⟨Ar, cr, rfl, _, _⟩ := hr
 obtain ⟨Az, cz, rfl, _, _⟩ := hz
 clear hsim hnod hdep hcol hknd hn1 hn2 hd1 hd2 hev HFI h
 unfold exV exA at *
 have x0 := HO.out.cell 0
 have x1 := HO.out.cell 1
 have x2 := HO.out.cell 2
 have x3 := HO.out.cell 3
 have x4 := HO.out.cell 4
 have x5 := HO.out.cell 5
 have x6 := HO.out.cell 6
 go_enter Tryz.func3, Tryz.ntmps3
 go_wp2_with fail
 with_reducible refine HSI.out.mono ?_
 rintro e1 w1 ⟨u, rfl, hr1, hb1⟩
 obtain ⟨A2, c2, rfl, hl2⟩ := hr1.slice
 replace HB := Lib.hid (HB.out.trans (hb1.mono HB.out.size))
 replace HO := Lib.hid (HO.out.below hb1 HO.out.lt)
 have HS := Lib.hid (Own.new w1 26 #[.int .i64 r.op, .int .i64 r.n, .int .i64 r.v.1, .int .i64 r.v.2.1, .string r.v.2.2, .string r.nm, .slice A2 r.args.length c2])
 have b2 := bel_mk w1 (.cells #[.int .i64 r.op, .int .i64 r.n, .int .i64 r.v.1, .int .i64 r.v.2.1, .string r.v.2.2, .string r.nm, .slice A2 r.args.length c2] 26)
 replace HB := Lib.hid (HB.out.trans (b2.mono HB.out.size))
 replace HO := Lib.hid (HO.out.below b2 HO.out.lt)
 have hR := hr1.step b2 (Nat.le_refl _)
 have HRR := Lib.hid hR
 clear hr1 hb1 b2 hR
 unfold exV
 dsimp only
 go_upto_region 2 with fail
 generalize w1.alloc (.cells #[.int .i64 r.op, .int .i64 r.n, .int .i64 r.v.1, .int .i64 r.v.2.1, .string r.v.2.2, .string r.nm, .slice A2 r.args.length c2] 26) = w2 at *
 have hs1 : w1.heap.size < w2.heap.size := HS.out.lt
 have hs0 : w.heap.size < w2.heap.size := HO.out.lt
 have E1 := Lib.hid (fun q : After w2 => show Calls Tryz.prog 5 #[.agg #[.int .i64 r.op, .int .i64 r.n, .int .i64 r.v.1, .int .i64 r.v.2.1, .string r.v.2.2, .string r.nm, .slice A2 r.args.length c2], .slice Ar row.length cr] q.w (fun e' w' => e' = .returned (.agg #[.int .i64 ev1, .int .i64 ev2, .string ev3]) ∧ Below q.w.heap.size q.w w') from by
  have h1 := rEval_any (.slice Ar row.length cr) row d r (.slice A2 r.args.length c2) q.w _ 0 (HRR.out.step q.h (Nat.le_refl _)) (HRV.out.step (HB.out.trans (q.h.mono HB.out.size)) (Nat.le_refl _))
  rw [M1.out] at h1
  exact h1)
 have E2 := Lib.hid (fun q : After w2 => show Calls Tryz.prog 5 #[.agg #[.int .i64 e.op, .int .i64 e.n, .int .i64 e.v.1, .int .i64 e.v.2.1, .string e.v.2.2, .string e.nm, .slice A e.args.length c], .slice Ar row.length cr] q.w (fun e' w' => e' = .returned (.agg #[.int .i64 ev1, .int .i64 ev2, .string ev3]) ∧ Below q.w.heap.size q.w w') from by
  have h1 := rEval_any (.slice Ar row.length cr) row d e (.slice A e.args.length c) q.w 0 0 (HRE.out.step (HB.out.trans (q.h.mono HB.out.size)) (Nat.le_refl _)) (HRV.out.step (HB.out.trans (q.h.mono HB.out.size)) (Nat.le_refl _))
  rw [M0.out] at h1
  exact h1)
 have N1 := Lib.hid (fun q : After w2 => show Calls Tryz.prog 6 #[.agg #[.int .i64 r.op, .int .i64 r.n, .int .i64 r.v.1, .int .i64 r.v.2.1, .string r.v.2.2, .string r.nm, .slice A2 r.args.length c2]] q.w (fun e' w' => e' = .returned (.int .i64 n1) ∧ Below q.w.heap.size q.w w') from by
  have h1 := rNod_any d r (.slice A2 r.args.length c2) q.w _ (HRR.out.step q.h (Nat.le_refl _)) (by have := MN.out; omega)
  rw [MN1.out] at h1
  exact h1)
 have N2 := Lib.hid (fun q : After w2 => show Calls Tryz.prog 6 #[.agg #[.int .i64 e.op, .int .i64 e.n, .int .i64 e.v.1, .int .i64 e.v.2.1, .string e.v.2.2, .string e.nm, .slice A e.args.length c]] q.w (fun e' w' => e' = .returned (.int .i64 n2) ∧ Below q.w.heap.size q.w w') from by
  have h1 := rNod_any d e (.slice A e.args.length c) q.w 0 (HRE.out.step (HB.out.trans (q.h.mono HB.out.size)) (Nat.le_refl _)) (by omega)
  rw [MN2.out] at h1
  exact h1)
 have D1 := Lib.hid (fun q : After w2 => show Calls Tryz.prog 7 #[.agg #[.int .i64 r.op, .int .i64 r.n, .int .i64 r.v.1, .int .i64 r.v.2.1, .string r.v.2.2, .string r.nm, .slice A2 r.args.length c2]] q.w (fun e' w' => e' = .returned (.int .i64 d1) ∧ Below q.w.heap.size q.w w') from by
  have h1 := rDepth_any d r A2 c2 q.w _ (HRR.out.step q.h (Nat.le_refl _)) (by omega)
  rw [MD1.out] at h1
  exact h1)
 have D2 := Lib.hid (fun q : After w2 => show Calls Tryz.prog 7 #[.agg #[.int .i64 e.op, .int .i64 e.n, .int .i64 e.v.1, .int .i64 e.v.2.1, .string e.v.2.2, .string e.nm, .slice A e.args.length c]] q.w (fun e' w' => e' = .returned (.int .i64 d2) ∧ Below q.w.heap.size q.w w') from by
  have h1 := rDepth_any d e A c q.w 0 (HRE.out.step (HB.out.trans (q.h.mono HB.out.size)) (Nat.le_refl _)) (by omega)
  rw [MD2.out] at h1
  exact h1)
 have hq := fun W => Va.neq_val ev1 ev2 ev3 ev1 ev2 ev3 W
 rw [show Va.eqV ev1 ev2 ev3 ev1 ev2 ev3 = true by unfold Va.eqV; simp] at hq
 have x0 := after_cell hs0 (HO.out.cell 0)
 have x1 := after_cell hs0 (HO.out.cell 1)
 have x2 := after_cell hs0 (HO.out.cell 2)
 have x3 := after_cell hs0 (HO.out.cell 3)
 have x4 := after_cell hs0 (HO.out.cell 4)
 have x5 := after_cell hs0 (HO.out.cell 5)
 have x6 := after_cell hs0 (HO.out.cell 6)
 have y0 := after_cell hs1 (HS.out.cell 0)
 have y1 := after_cell hs1 (HS.out.cell 1)
 have y2 := after_cell hs1 (HS.out.cell 2)
 have y3 := after_cell hs1 (HS.out.cell 3)
 have y4 := after_cell hs1 (HS.out.cell 4)
 have y5 := after_cell hs1 (HS.out.cell 5)
 have y6 := after_cell hs1 (HS.out.cell 6)
 try dsimp only [List.getElem?_toArray, List.getElem?_cons_zero, List.getElem?_cons_succ] at x0 x1 x2 x3 x4 x5 x6 y0 y1 y2 y3 y4 y5 y6
 have hn1 := HN12.out
 have hd1 := HD12.out
 (refine wp_region_after (by kernel_rfl) (by kernel_rfl) ?_; (repeat (go_big_quiet_step ((first | (go_at_call 5; first | with_reducible exact calls_after (E1.out _) | with_reducible exact calls_after (E2.out _)) | (go_at_call 6; first | with_reducible exact calls_after (N1.out _) | with_reducible exact calls_after (N2.out _)) | (go_at_call 7; first | with_reducible exact calls_after (D1.out _) | with_reducible exact calls_after (D2.out _)))))); refine wpQuiet_nil ?_; intro wq hw0; obtain ⟨⟨wq0, hbq⟩, hw1⟩ := hw0; subst hw1; (try dsimp only))
 clear x0 x1 x2 x3 x4 x5 x6 y0 y1 y2 y3 y4 y5 y6 E1 E2 N1 N2 D1 D2 hq hn1 hd1 HN12 HD12 MN1 MN2 MD1 MD2 M0 M1
 replace HRR := Lib.hid (HRR.out.step hbq (Nat.le_refl _))
 replace HB := Lib.hid (HB.out.trans (hbq.mono HB.out.size))
 replace HO := Lib.hid (HO.out.below hbq HO.out.lt)
 replace HS := Lib.hid (HS.out.below hbq HS.out.lt)
 clear hbq hs0 hs1
 generalize hw2 : w2.heap.size = z2 at *
 clear hw2
 have x0 := HO.out.cell 0
 have x1 := HO.out.cell 1
 have x2 := HO.out.cell 2
 have x3 := HO.out.cell 3
 have x4 := HO.out.cell 4
 have x5 := HO.out.cell 5
 have x6 := HO.out.cell 6
 have HC := Lib.hid (rColumns_any d e (.slice A e.args.length c) wq 0 (HRE.out.step HB.out (Nat.le_refl _)) (Nat.le_trans (col_nod d e) hn))
 unfold exV at HC
 go_wp2_with fail
 with_reducible refine HC.out.mono ?_
 rintro e3 w3 ⟨u3, rfl, hr3, hb3⟩
 obtain ⟨A3, c3, hu3⟩ := ownZ_shape hr3
 subst hu3
 clear hr3
 replace HB := Lib.hid (HB.out.trans (hb3.mono HB.out.size))
 replace HO := Lib.hid (HO.out.below hb3 HO.out.lt)
 replace HS := Lib.hid (HS.out.below hb3 HS.out.lt)
 replace HRR := Lib.hid (HRR.out.step hb3 (Nat.le_refl _))
 clear hb3 HC x0 x1 x2 x3 x4 x5 x6
 by_cases hcl : refE d e = []
 ·have hl0 : (refE d e).length = 0 := by rw [hcl]; rfl
  have hro := MC.out hcl
  rw [hl0] at *
  have HFm := Lib.hid (fun W => rFormed_any r.op r.n r.v.1 r.v.2.1 r.v.2.2 r.nm A2 r.args.length c2 W hl2)
  rw [show wfE r.op r.n r.v.1 r.v.2.1 r.v.2.2 r.nm r.args.length = true from MW.out] at HFm
  have hrb : (r.op != 1) = false := by rw [hro]; rfl
  clear hcl hl0 hro
  have y0 := HS.out.cell 0
  have y1 := HS.out.cell 1
  have y2 := HS.out.cell 2
  have y3 := HS.out.cell 3
  have y4 := HS.out.cell 4
  have y5 := HS.out.cell 5
  have y6 := HS.out.cell 6
  go_wp2_with fail
  with_reducible refine (HFm.out _).mono ?_
  rintro e4 w4 ⟨rfl, hb4⟩
  replace HB := Lib.hid (HB.out.trans (hb4.mono HB.out.size))
  replace HO := Lib.hid (HO.out.below hb4 HO.out.lt)
  replace HS := Lib.hid (HS.out.below hb4 HS.out.lt)
  replace HRR := Lib.hid (HRR.out.step hb4 (Nat.le_refl _))
  clear hb4 HFm y0 y1 y2 y3 y4 y5 y6
  have HK1 := Lib.hid (rCheck_any (.slice Az zs.length cz) zs d e A c _ 0 0 (HRE.out.step HB.out (Nat.le_refl _)) (HRI.out.step HB.out (Nat.le_refl _)) (by omega))
  unfold exV resV at HK1
  have x0 := HO.out.cell 0
  have x1 := HO.out.cell 1
  have x2 := HO.out.cell 2
  have x3 := HO.out.cell 3
  have x4 := HO.out.cell 4
  have x5 := HO.out.cell 5
  have x6 := HO.out.cell 6
  go_wp2_with fail
  with_reducible refine HK1.out.mono ?_
  rintro e4 w4 ⟨rfl, hb4⟩
  replace HB := Lib.hid (HB.out.trans (hb4.mono HB.out.size))
  replace HO := Lib.hid (HO.out.below hb4 HO.out.lt)
  replace HS := Lib.hid (HS.out.below hb4 HS.out.lt)
  replace HRR := Lib.hid (HRR.out.step hb4 (Nat.le_refl _))
  clear hb4 HK1 x0 x1 x2 x3 x4 x5 x6
  have HKM := Lib.hid (fun k (hk : chkT zs d e = (k, 0)) => MK.out k hk)
  generalize chkT zs d e = P at *
  obtain ⟨k, f⟩ := P
  dsimp only
  by_cases hf : f = 0
  ·subst hf
   obtain ⟨m, hm, hmk⟩ := HKM.out k rfl
   have HK2 := Lib.hid (rCheck_any (.slice Az zs.length cz) zs d r A2 c2 _ _ 0 HRR.out (HRI.out.step HB.out (Nat.le_refl _)) (by omega))
   rw [hm] at HK2
   unfold exV resV at HK2
   dsimp only at HK2
   have y0 := HS.out.cell 0
   have y1 := HS.out.cell 1
   have y2 := HS.out.cell 2
   have y3 := HS.out.cell 3
   have y4 := HS.out.cell 4
   have y5 := HS.out.cell 5
   have y6 := HS.out.cell 6
   go_wp2_with fail
   with_reducible refine HK2.out.mono ?_
   rintro e5 w5 ⟨rfl, hb5⟩
   replace HB := Lib.hid (HB.out.trans (hb5.mono HB.out.size))
   clear hb5 HK2 y0 y1 y2 y3 y4 y5 y6 hm
   rcases hmk with rfl | rfl
   ·have hmm : (m == m) = true := by simp
    go_wp2_with fail
    with_reducible refine (TA.out _).mono ?_
    rintro e9 w9 ⟨rfl, hb9⟩
    replace HB := Lib.hid (HB.out.trans (hb9.mono HB.out.size))
    clear hb9
    go_wp2
    go_ret
    exact ⟨rfl, HB.out⟩
   ·by_cases hk0 : k = 0
    ·subst hk0
     go_wp2_with fail
     with_reducible refine (TA.out _).mono ?_
     rintro e9 w9 ⟨rfl, hb9⟩
     replace HB := Lib.hid (HB.out.trans (hb9.mono HB.out.size))
     clear hb9
     go_wp2
     go_ret
     exact ⟨rfl, HB.out⟩
    ·have hkb : ((0 : Int) == k) = false := by rw [beq_eq_false_iff_ne]; exact fun h => hk0 h.symm
     clear hk0
     go_wp2_with fail
     with_reducible refine (TA.out _).mono ?_
     rintro e9 w9 ⟨rfl, hb9⟩
     replace HB := Lib.hid (HB.out.trans (hb9.mono HB.out.size))
     clear hb9
     go_wp2
     go_ret
     exact ⟨rfl, HB.out⟩
  ·have hfb : (f != 0) = true := by simpa using hf
   clear hf
   go_wp2_with fail
   with_reducible refine (TA.out _).mono ?_
   rintro e9 w9 ⟨rfl, hb9⟩
   replace HB := Lib.hid (HB.out.trans (hb9.mono HB.out.size))
   clear hb9
   go_wp2
   go_ret
   exact ⟨rfl, HB.out⟩
 ·have hl0 : (refE d e).length ≠ 0 := fun h => hcl (List.eq_nil_of_length_eq_zero h)
  clear hcl
  generalize (refE d e).length = ln at *
  have hlb : ((ln : Int) == 0) = false := by rw [beq_eq_false_iff_ne]; omega
  clear hl0
  have HK1 := Lib.hid (rCheck_any (.slice Az zs.length cz) zs d e A c _ 0 0 (HRE.out.step HB.out (Nat.le_refl _)) (HRI.out.step HB.out (Nat.le_refl _)) (by omega))
  unfold exV resV at HK1
  have x0 := HO.out.cell 0
  have x1 := HO.out.cell 1
  have x2 := HO.out.cell 2
  have x3 := HO.out.cell 3
  have x4 := HO.out.cell 4
  have x5 := HO.out.cell 5
  have x6 := HO.out.cell 6
  go_wp2_with fail
  with_reducible refine HK1.out.mono ?_
  rintro e4 w4 ⟨rfl, hb4⟩
  replace HB := Lib.hid (HB.out.trans (hb4.mono HB.out.size))
  replace HO := Lib.hid (HO.out.below hb4 HO.out.lt)
  replace HS := Lib.hid (HS.out.below hb4 HS.out.lt)
  replace HRR := Lib.hid (HRR.out.step hb4 (Nat.le_refl _))
  clear hb4 HK1 x0 x1 x2 x3 x4 x5 x6
  have HKM := Lib.hid (fun k (hk : chkT zs d e = (k, 0)) => MK.out k hk)
  generalize chkT zs d e = P at *
  obtain ⟨k, f⟩ := P
  dsimp only
  by_cases hf : f = 0
  ·subst hf
   obtain ⟨m, hm, hmk⟩ := HKM.out k rfl
   have HK2 := Lib.hid (rCheck_any (.slice Az zs.length cz) zs d r A2 c2 _ _ 0 HRR.out (HRI.out.step HB.out (Nat.le_refl _)) (by omega))
   rw [hm] at HK2
   unfold exV resV at HK2
   dsimp only at HK2
   have y0 := HS.out.cell 0
   have y1 := HS.out.cell 1
   have y2 := HS.out.cell 2
   have y3 := HS.out.cell 3
   have y4 := HS.out.cell 4
   have y5 := HS.out.cell 5
   have y6 := HS.out.cell 6
   go_wp2_with fail
   with_reducible refine HK2.out.mono ?_
   rintro e5 w5 ⟨rfl, hb5⟩
   replace HB := Lib.hid (HB.out.trans (hb5.mono HB.out.size))
   clear hb5 HK2 y0 y1 y2 y3 y4 y5 y6 hm
   rcases hmk with rfl | rfl
   ·have hmm : (m == m) = true := by simp
    go_wp2_with fail
    with_reducible refine (TA.out _).mono ?_
    rintro e9 w9 ⟨rfl, hb9⟩
    replace HB := Lib.hid (HB.out.trans (hb9.mono HB.out.size))
    clear hb9
    go_wp2
    go_ret
    exact ⟨rfl, HB.out⟩
   ·by_cases hk0 : k = 0
    ·subst hk0
     go_wp2_with fail
     with_reducible refine (TA.out _).mono ?_
     rintro e9 w9 ⟨rfl, hb9⟩
     replace HB := Lib.hid (HB.out.trans (hb9.mono HB.out.size))
     clear hb9
     go_wp2
     go_ret
     exact ⟨rfl, HB.out⟩
    ·have hkb : ((0 : Int) == k) = false := by rw [beq_eq_false_iff_ne]; exact fun h => hk0 h.symm
     clear hk0
     go_wp2_with fail
     with_reducible refine (TA.out _).mono ?_
     rintro e9 w9 ⟨rfl, hb9⟩
     replace HB := Lib.hid (HB.out.trans (hb9.mono HB.out.size))
     clear hb9
     go_wp2
     go_ret
     exact ⟨rfl, HB.out⟩
  ·have hfb : (f != 0) = true := by simpa using hf
   clear hf
   go_wp2_with fail
   with_reducible refine (TA.out _).mono ?_
   rintro e9 w9 ⟨rfl, hb9⟩
   replace HB := Lib.hid (HB.out.trans (hb9.mono HB.out.size))
   clear hb9
   go_wp2
   go_ret
   exact ⟨rfl, HB.out⟩
end Go.Proofs.YtdhemhmgenhmaaaGreat
