import Derived.Test.YthnmcpfmljibeaaGreatRR
import Derived.Test.YthnmcpfmljibeaaGreatPS
import Derived.WalkKit
import Derived.WalkSpells
import Derived.WalkLawsBesides
import Derived.Deep.QuietTactic
import Derived.BigQuiet
import Derived.Handy
import Derived.Lib.Hide
/-
  The closure of Split, case 2. Conditions: lengths. (Written by mkPdS.py.)
-/
namespace Go.Proofs.YthnmcpfmljibeaaGreat
set_option maxRecDepth 100000
set_option linter.unusedVariables false
set_option linter.unusedSimpArgs false
open Go.RowKit

set_option maxRecDepth 100000 in
set_option maxHeartbeats 12800000 in
theorem pSp2_any (d : Nat) (e : Ex) (u : Value) (n0 : Int) (gn ga gb gc base L : Nat) (v : Value) (ps : List ExU) (l : List Int) (W : World) (hu : RdE W L W.heap.size d u e.args) (hn : Own W gn 3 #[.int .i64 n0]) (hg : Own W gb 24 #[v]) (hown : W.ownsRow base 26 7 v ps.length (flatE ps)) (hgb : gb < base) (hbz : base ≤ W.heap.size) (hl : ps.length ≤ 1099511627776) (hcol : (colE d e).length ≤ 1099511627776) (hce : colS (colE d e) = l) (hside : ¬ l.getLastD 0 < n0) (hne : l ≠ []) (hs2 : n0 ≤ l.headD 0) :
    Calls Tryz.prog 75 #[exV e u, .pointer (some ⟨gn, 0, none⟩), .pointer (some ⟨ga, 0, none⟩), .pointer (some ⟨gb, 0, none⟩), .pointer (some ⟨gc, 0, none⟩)] W fun e' w' => e' = .returned (.tuple #[]) ∧ UpdX W w' gb base (d + 1) v ps e := by
  obtain ⟨A, c, rfl, hel⟩ := hu.slice
  have HCLO := Lib.hid (fun (W' : World) (hb : Below W.heap.size W W') => show Calls Tryz.prog 77 #[exV e (.slice A e.args.length c)] W' (fun e' w' => ∃ A4 c4, e' = .returned (exV e (.slice A4 e.args.length c4)) ∧ RdE w' W'.heap.size w'.heap.size (d + 1) (.slice A4 e.args.length c4) e.args ∧ Below W'.heap.size W' w') from (pClo_any d e _ W' L (hu.step hb (Nat.le_refl _))).mono fun e' w' h => by
    obtain ⟨u4, h1, h2, h3⟩ := h
    obtain ⟨A4, c4, rfl, _⟩ := h2.slice
    exact ⟨A4, c4, h1, h2, h3⟩)
  have b1 := bel_mk W (.cells (exA e (.slice A e.args.length c)) 26)
  have HCOL := Lib.hid (pColumns_any d e (.slice A e.args.length c) (W.alloc (.cells (exA e (.slice A e.args.length c)) 26)) L (hu.step b1 (Nat.le_refl _)) hcol)
  rw [hce] at HCOL
  clear hce hcol
  obtain ⟨op, n, ⟨k1, k2, s⟩, nm, es⟩ := e
  obtain ⟨Av, cv, rfl⟩ := ownX_shape hown
  unfold exV exA at *
  dsimp only at *
  have hge := Lib.hid (ownX_ge hown)
  have HB1 := Lib.hid b1
  have HE1 := Lib.hid (Own.new W 26 #[.int .i64 op, .int .i64 n, .int .i64 k1, .int .i64 k2, .string s, .string nm, .slice A es.length c])
  have HN1 := Lib.hid (hn.below b1 hn.lt)
  have HG1 := Lib.hid (hg.below b1 hg.lt)
  have HR1 := Lib.hid (own_below hown b1)
  have hgl := hg.lt
  have hix : (ps.length : Int) < (ps.length : Int) + 1 := by omega
  have e0 := HE1.out.cell 0
  have e1 := HE1.out.cell 1
  have e2 := HE1.out.cell 2
  have e3 := HE1.out.cell 3
  have e4 := HE1.out.cell 4
  have e5 := HE1.out.cell 5
  have e6 := HE1.out.cell 6
  clear hu hown hg hn b1
  go_enter Tryz.func75, Tryz.ntmps75
  go_wp2_with fail
  with_reducible refine HCOL.out.mono ?_
  rintro e' w2 ⟨vl, rfl, hrl, hb2⟩
  have HB2 := Lib.hid (HB1.out.trans (hb2.mono HB1.out.size))
  have HE2 := Lib.hid (HE1.out.below hb2 HE1.out.lt)
  have HN2 := Lib.hid (HN1.out.below hb2 HN1.out.lt)
  have HG2 := Lib.hid (HG1.out.below hb2 HG1.out.lt)
  have HR2 := Lib.hid (own_below HR1.out hb2)
  clear e0 e1 e2 e3 e4 e5 e6 HCOL HB1 HE1 HN1 HG1 HR1 hb2
  obtain ⟨m, hm⟩ : ∃ m, l.length = m + 1 := ⟨l.length - 1, by have : l.length ≠ 0 := fun h => hne (List.eq_nil_of_length_eq_zero h); omega⟩
  have hlast : l[m]? = some (l.getLastD 0) := by
    cases l with
    | nil => exact absurd rfl hne
    | cons a t =>
      rw [List.getLastD_cons]
      have h := List.getLast?_eq_getElem? (l := a :: t)
      rw [hm] at h
      simp only [Nat.add_sub_cancel] at h
      rw [← h, List.getLast?_cons, List.getLastD_eq_getLast?]
  have hhead : l[0]? = some (l.headD 0) := by
    cases l with
    | nil => exact absurd rfl hne
    | cons a t => rfl
  obtain ⟨Al, cl, rfl, hll, hlc⟩ := hrl
  obtain ⟨adl, rfl, _, hal, cl1⟩ := hlc m _ hlast
  obtain ⟨adl2, hA2, _, hal2, cl0⟩ := hlc 0 _ hhead
  injection hA2 with hA2
  subst hA2
  rw [show adl.add 0 = adl by unfold Addr.add; simp] at cl0
  rw [hm] at *
  generalize l.getLastD 0 = la at *
  generalize l.headD 0 = lh at *
  have n0f := after_cell (W := w2) (a := ⟨gn, 0, none⟩) HN2.out.lt (HN2.out.cell 0)
  have l1f := after_cell (W := w2) (by rw [add_block]; exact hal) cl1
  have hm1 : IntKind.i64.wrap ((m : Int) + 1 - 1) = (m : Int) := by rw [IntKind.wrap_i64]; omega
  have hm3 : IntKind.i64.wrap ((m : Int) + 1 + -1) = (m : Int) := by rw [IntKind.wrap_i64]; omega
  have hm4 : wrap64 ((m : Int) + 1 - 1) = (m : Int) := by unfold wrap64; omega
  have hm0 : ((m : Int) + 1 == 0) = false := by rw [beq_eq_false_iff_ne]; omega
  have hmi : (m : Int) < (m : Int) + 1 := by omega
  have hm00 : (0 : Int) < (m : Int) + 1 := by omega
  clear hlc hlast hhead hne hm
  go_wp2_with fail
  (refine wp_region_after (by kernel_rfl) (by kernel_rfl) ?_; (repeat (go_big_quiet_step (fail))); refine wpQuiet_nil ?_; intro wq hw0; obtain ⟨⟨wq0, hbq⟩, hw1⟩ := hw0; subst hw1; (try dsimp only))
  have HBQ := Lib.hid (HB2.out.trans (hbq.mono HB2.out.size))
  have HEQ := Lib.hid (HE2.out.below hbq HE2.out.lt)
  have HGQ := Lib.hid (HG2.out.below hbq HG2.out.lt)
  have HRQ := Lib.hid (own_below HR2.out hbq)
  have HNQ := Lib.hid (HN2.out.below hbq HN2.out.lt)
  replace cl0 := (hbq.cell (p := adl) hal2).trans cl0
  have hzq2 := hbq.size
  clear hbq HB2 HE2 HN2 HG2 HR2 n0f l1f cl1
  have n0f := after_cell (W := wq) (a := ⟨gn, 0, none⟩) HNQ.out.lt (HNQ.out.cell 0)
  have hzq : w2.heap.size ≤ wq.heap.size := hzq2
  have l0f := after_cell (W := wq) (a := adl) (by omega) cl0
  clear cl0
  go_wp2_with fail
  (refine wp_region_after (by kernel_rfl) (by kernel_rfl) ?_; (repeat (go_big_quiet_step (fail))); refine wpQuiet_nil ?_; intro wp hw0; obtain ⟨⟨wq0, hbp⟩, hw1⟩ := hw0; subst hw1; (try dsimp only))
  replace HBQ := Lib.hid (HBQ.out.trans (hbp.mono HBQ.out.size))
  replace HEQ := Lib.hid (HEQ.out.below hbp HEQ.out.lt)
  replace HGQ := Lib.hid (HGQ.out.below hbp HGQ.out.lt)
  replace HRQ := Lib.hid (own_below HRQ.out hbp)
  clear hbp n0f l0f HNQ hzq hzq2
  clear wq
  generalize wp = wq at *
  have HBD := Lib.hid (show Below W.heap.size W wq.drew from HBQ.out.drew)
  have HG1 := Lib.hid (show Own wq.drew gb 24 #[.slice Av ps.length cv] from HGQ.out)
  have HR1 := Lib.hid (show wq.drew.ownsRow base 26 7 (.slice Av ps.length cv) ps.length (flatE ps) from HRQ.out)
  have hbz2 := bel_mk wq (.cells #[.int .i64 0, .int .i64 0, .int .i64 0, .int .i64 0, .string ⟨#[]⟩, .string ⟨#[]⟩, .slice none 0 0] 26)
  have HBZ := Lib.hid (show Below W.heap.size W (wq.alloc (.cells #[.int .i64 0, .int .i64 0, .int .i64 0, .int .i64 0, .string ⟨#[]⟩, .string ⟨#[]⟩, .slice none 0 0] 26)).drew from (HBQ.out.trans (hbz2.mono HBQ.out.size)).drew)
  have HGZ := Lib.hid (show Own (wq.alloc (.cells #[.int .i64 0, .int .i64 0, .int .i64 0, .int .i64 0, .string ⟨#[]⟩, .string ⟨#[]⟩, .slice none 0 0] 26)).drew gb 24 #[.slice Av ps.length cv] from HGQ.out.alloc _)
  have HRZ := Lib.hid (show (wq.alloc (.cells #[.int .i64 0, .int .i64 0, .int .i64 0, .int .i64 0, .string ⟨#[]⟩, .string ⟨#[]⟩, .slice none 0 0] 26)).drew.ownsRow base 26 7 (.slice Av ps.length cv) ps.length (flatE ps) from own_below HRQ.out hbz2.drew)
  have HZZ := Lib.hid (show Own (wq.alloc (.cells #[.int .i64 0, .int .i64 0, .int .i64 0, .int .i64 0, .string ⟨#[]⟩, .string ⟨#[]⟩, .slice none 0 0] 26)).drew wq.heap.size 26 #[.int .i64 0, .int .i64 0, .int .i64 0, .int .i64 0, .string ⟨#[]⟩, .string ⟨#[]⟩, .slice none 0 0] from Own.new wq _ _)
  have hgc := HGQ.out.cell 0
  have hszE : W.heap.size < wq.heap.size := HEQ.out.lt
  have hszG : gb < wq.heap.size := HGQ.out.lt
  have e0 := HEQ.out.cell 0
  have e1 := HEQ.out.cell 1
  have e2 := HEQ.out.cell 2
  have e3 := HEQ.out.cell 3
  have e4 := HEQ.out.cell 4
  have e5 := HEQ.out.cell 5
  have e6 := HEQ.out.cell 6
  clear hbz2 HBQ HEQ HGQ HRQ
  go_wp2_with fail
  go_region_law (first
    | (go_simp; go_at_call 77; with_reducible refine (HCLO.out _ HBD.out).mono ?_; rintro e' w4 ⟨A4, c4, rfl, hr4, hb4⟩; have HG4 := Lib.hid (HG1.out.below hb4 HG1.out.lt); have HR4 := Lib.hid (own_below HR1.out hb4); have HK4 := Lib.hid (show KidsX w4 W.heap.size (.slice Av ps.length cv) (d + 1) [(⟨op, n, (k1, k2, s), nm, es⟩, .slice A4 es.length c4)] from KidsX.one (p := (⟨op, n, (k1, k2, s), nm, es⟩, .slice A4 es.length c4)) hr4 HBD.out.size (ownX_lt HR1.out)); have HB4 := Lib.hid (HBD.out.trans (hb4.mono HBD.out.size)); have cg4 := HG4.out.cell 0; have lg4 := HG4.out.lt; clear hr4 hb4)
    | (go_simp; go_at_call 77; with_reducible refine (HCLO.out _ HBZ.out).mono ?_; rintro e' w4 ⟨A4, c4, rfl, hr4, hb4⟩; have HG4 := Lib.hid (HGZ.out.below hb4 HGZ.out.lt); have HR4 := Lib.hid (own_below HRZ.out hb4); have HZ4 := Lib.hid (HZZ.out.below hb4 HZZ.out.lt); have HK4 := Lib.hid (show KidsX w4 W.heap.size (.slice Av ps.length cv) (d + 1) [(⟨op, n, (k1, k2, s), nm, es⟩, .slice A4 es.length c4)] from KidsX.one (p := (⟨op, n, (k1, k2, s), nm, es⟩, .slice A4 es.length c4)) hr4 HBZ.out.size (ownX_lt HRZ.out)); have HB4 := Lib.hid (HBZ.out.trans (hb4.mono HBZ.out.size)); have cg4 := HG4.out.cell 0; have lg4 := HG4.out.lt; clear hr4 hb4)
    | (refine step_append_ex _ rfl _ _ rfl base (.slice Av ps.length cv) ps rfl (own_below HR4.out (bel_mk _ (.cells #[.int .i64 0, .int .i64 0, .int .i64 0, .int .i64 0, .string ⟨#[]⟩, .string ⟨#[]⟩, .slice none 0 0] 26))) w4.heap.size _ zX ⟨_, _, _, rfl⟩ rfl (lit_ex w4 zX) (by omega) (Nat.le_trans hbz (Nat.le_trans HB4.out.size (bel_mk _ _).size)) ?_; intro g6 cap6 w6 hr6 hg6 hv6 hl6; replace hr6 : w6.ownsRow base 26 7 (.slice (some ⟨g6, 0, none⟩) (ps.length + 1) cap6) (ps.length + 1) (flatE (ps ++ [zX])) := (by rw [List.length_append] at hr6; exact hr6); have HG6 := Lib.hid ((HG4.out.alloc (.cells #[.int .i64 0, .int .i64 0, .int .i64 0, .int .i64 0, .string ⟨#[]⟩, .string ⟨#[]⟩, .slice none 0 0] 26)).grownX hg6 (fun b hb => by have := hge.out b hb; omega)); have HR6 := Lib.hid hr6; have HK6 := Lib.hid ((HK4.out.below (bel_mk _ (.cells #[.int .i64 0, .int .i64 0, .int .i64 0, .int .i64 0, .string ⟨#[]⟩, .string ⟨#[]⟩, .slice none 0 0] 26))).grown (n := ps.length + 1) (c := cap6) hg6 hv6); have HB6 := Lib.hid (((HB4.out.trans ((bel_mk w4 (.cells #[.int .i64 0, .int .i64 0, .int .i64 0, .int .i64 0, .string ⟨#[]⟩, .string ⟨#[]⟩, .slice none 0 0] 26)).mono HB4.out.size)).mono (Nat.le_of_lt hgl)).grown hg6 (Nat.le_trans (Nat.le_of_lt hgl) (Nat.le_trans HB4.out.size (bel_mk _ _).size)) (fun b hb => by have := hge.out b hb; omega)); have HP6 := Lib.hid (show ∀ b, b < W.heap.size → (Value.slice Av ps.length cv).ownBlock ≠ some b → w6.heap[b]? = W.heap[b]? from fun b hb hne => (hg6.block b (Nat.lt_of_lt_of_le hb (Nat.le_trans HB4.out.size (bel_mk w4 (.cells #[.int .i64 0, .int .i64 0, .int .i64 0, .int .i64 0, .string ⟨#[]⟩, .string ⟨#[]⟩, .slice none 0 0] 26)).size)) (fun h => hne h.symm)).trans (((bel_mk w4 (.cells #[.int .i64 0, .int .i64 0, .int .i64 0, .int .i64 0, .string ⟨#[]⟩, .string ⟨#[]⟩, .slice none 0 0] 26)).block b (Nat.lt_of_lt_of_le hb HB4.out.size)).trans (HB4.out.block b hb))); have hv6x : (Value.slice Av ps.length cv).ownBlock = some g6 ∨ W.heap.size ≤ g6 := (hv6.imp id (fun h => by have := HB4.out.size; have h2 := (bel_mk w4 (.cells #[.int .i64 0, .int .i64 0, .int .i64 0, .int .i64 0, .string ⟨#[]⟩, .string ⟨#[]⟩, .slice none 0 0] 26)).size; omega)); have z0 : w6.cell? ⟨g6, ps.length * 7, none⟩ = some (.int .i64 0) := cell_last0 hr6 rfl; have f0 : w6.frozen? ⟨g6, ps.length * 7, none⟩ = false := World.ownsRow.frozenAt hr6 _; have z1 : w6.cell? ⟨g6, ps.length * 7 + 1, none⟩ = some (.int .i64 0) := cell_last hr6 1 (by decide) rfl; have f1 : w6.frozen? ⟨g6, ps.length * 7 + 1, none⟩ = false := World.ownsRow.frozenAt hr6 _; have z2 : w6.cell? ⟨g6, ps.length * 7 + 2, none⟩ = some (.int .i64 0) := cell_last hr6 2 (by decide) rfl; have f2 : w6.frozen? ⟨g6, ps.length * 7 + 2, none⟩ = false := World.ownsRow.frozenAt hr6 _; have z3 : w6.cell? ⟨g6, ps.length * 7 + 3, none⟩ = some (.int .i64 0) := cell_last hr6 3 (by decide) rfl; have f3 : w6.frozen? ⟨g6, ps.length * 7 + 3, none⟩ = false := World.ownsRow.frozenAt hr6 _; have z4 : w6.cell? ⟨g6, ps.length * 7 + 4, none⟩ = some (.string ⟨#[]⟩) := cell_last hr6 4 (by decide) rfl; have f4 : w6.frozen? ⟨g6, ps.length * 7 + 4, none⟩ = false := World.ownsRow.frozenAt hr6 _; have z5 : w6.cell? ⟨g6, ps.length * 7 + 5, none⟩ = some (.string ⟨#[]⟩) := cell_last hr6 5 (by decide) rfl; have f5 : w6.frozen? ⟨g6, ps.length * 7 + 5, none⟩ = false := World.ownsRow.frozenAt hr6 _; have z6 : w6.cell? ⟨g6, ps.length * 7 + 6, none⟩ = some (.slice none 0 0) := cell_last hr6 6 (by decide) rfl; have f6 : w6.frozen? ⟨g6, ps.length * 7 + 6, none⟩ = false := World.ownsRow.frozenAt hr6 _; have cg := HG6.out.cell 0; have fg := HG6.out.free 0; have hgb6 := (hr6.lt g6 rfl).1; have hne6 : g6 ≠ gb := (by omega); have hne7 : gb ≠ g6 := (by omega); clear hr6 hg6 hv6)
    | (refine step_append_ex _ rfl _ _ rfl base (.slice Av ps.length cv) ps rfl HR4.out wq.heap.size _ zX ⟨_, _, _, rfl⟩ rfl (fun j u hu => by rw [addX, HZ4.out.cell j, ← hu]; exact List.getElem?_toArray ..) (by omega) (Nat.le_trans hbz HB4.out.size) ?_; intro g6 cap6 w6 hr6 hg6 hv6 hl6; replace hr6 : w6.ownsRow base 26 7 (.slice (some ⟨g6, 0, none⟩) (ps.length + 1) cap6) (ps.length + 1) (flatE (ps ++ [zX])) := (by rw [List.length_append] at hr6; exact hr6); have HG6 := Lib.hid (HG4.out.grownX hg6 (fun b hb => by have := hge.out b hb; omega)); have HR6 := Lib.hid hr6; have HK6 := Lib.hid (HK4.out.grown (n := ps.length + 1) (c := cap6) hg6 hv6); have HB6 := Lib.hid ((HB4.out.mono (Nat.le_of_lt hgl)).grown hg6 (Nat.le_trans (Nat.le_of_lt hgl) HB4.out.size) (fun b hb => by have := hge.out b hb; omega)); have HP6 := Lib.hid (show ∀ b, b < W.heap.size → (Value.slice Av ps.length cv).ownBlock ≠ some b → w6.heap[b]? = W.heap[b]? from fun b hb hne => (hg6.block b (Nat.lt_of_lt_of_le hb HB4.out.size) (fun h => hne h.symm)).trans (HB4.out.block b hb)); have hv6x : (Value.slice Av ps.length cv).ownBlock = some g6 ∨ W.heap.size ≤ g6 := (hv6.imp id (fun h => by have := HB4.out.size; omega)); have z0 : w6.cell? ⟨g6, ps.length * 7, none⟩ = some (.int .i64 0) := cell_last0 hr6 rfl; have f0 : w6.frozen? ⟨g6, ps.length * 7, none⟩ = false := World.ownsRow.frozenAt hr6 _; have z1 : w6.cell? ⟨g6, ps.length * 7 + 1, none⟩ = some (.int .i64 0) := cell_last hr6 1 (by decide) rfl; have f1 : w6.frozen? ⟨g6, ps.length * 7 + 1, none⟩ = false := World.ownsRow.frozenAt hr6 _; have z2 : w6.cell? ⟨g6, ps.length * 7 + 2, none⟩ = some (.int .i64 0) := cell_last hr6 2 (by decide) rfl; have f2 : w6.frozen? ⟨g6, ps.length * 7 + 2, none⟩ = false := World.ownsRow.frozenAt hr6 _; have z3 : w6.cell? ⟨g6, ps.length * 7 + 3, none⟩ = some (.int .i64 0) := cell_last hr6 3 (by decide) rfl; have f3 : w6.frozen? ⟨g6, ps.length * 7 + 3, none⟩ = false := World.ownsRow.frozenAt hr6 _; have z4 : w6.cell? ⟨g6, ps.length * 7 + 4, none⟩ = some (.string ⟨#[]⟩) := cell_last hr6 4 (by decide) rfl; have f4 : w6.frozen? ⟨g6, ps.length * 7 + 4, none⟩ = false := World.ownsRow.frozenAt hr6 _; have z5 : w6.cell? ⟨g6, ps.length * 7 + 5, none⟩ = some (.string ⟨#[]⟩) := cell_last hr6 5 (by decide) rfl; have f5 : w6.frozen? ⟨g6, ps.length * 7 + 5, none⟩ = false := World.ownsRow.frozenAt hr6 _; have z6 : w6.cell? ⟨g6, ps.length * 7 + 6, none⟩ = some (.slice none 0 0) := cell_last hr6 6 (by decide) rfl; have f6 : w6.frozen? ⟨g6, ps.length * 7 + 6, none⟩ = false := World.ownsRow.frozenAt hr6 _; have cg := HG6.out.cell 0; have fg := HG6.out.free 0; have hgb6 := (hr6.lt g6 rfl).1; have hne6 : g6 ≠ gb := (by omega); have hne7 : gb ≠ g6 := (by omega); clear hr6 hg6 hv6))
  all_goals
    go_end0
    refine ⟨rfl, ?_⟩
    first
      | with_reducible exact sp_doneA op n k1 k2 s nm es A4 c4 HG6.out HR6.out HK6.out HB6.out HP6.out hgb hbz hgb6 hv6x
      | with_reducible exact sp_doneB op n k1 k2 s nm es A4 c4 HG6.out HR6.out HK6.out HB6.out HP6.out hgb hbz hgb6 hv6x
end Go.Proofs.YthnmcpfmljibeaaGreat
