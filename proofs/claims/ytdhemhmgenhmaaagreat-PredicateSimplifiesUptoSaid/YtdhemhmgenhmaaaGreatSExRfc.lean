import Derived.Test.YtdhemhmgenhmaaaGreatSExRe
import Derived.Test.YtdhemhmgenhmaaaGreatSExJf
import Derived.Test.YtdhemhmgenhmaaaGreatQEE
import Derived.WalkKit
import Derived.WalkSpells
import Derived.WalkLawsBesides
import Derived.Deep.QuietTactic
import Derived.BigQuiet
import Derived.Handy
import Derived.Lib.Hide
set_option maxRecDepth 100000
set_option maxHeartbeats 25600000
set_option linter.unusedVariables false
set_option linter.unusedSimpArgs false
/-
  The value of an expression, by the reference: Eval at some operators. Conditions: lengths, a bounded depth.
-/
namespace Go.Proofs.YtdhemhmgenhmaaaGreat
open Go.RowKit
theorem rEvG_c (rv : Value) (row : List Vl) (d : Nat) (IH0 : ∀ (e : Ex) (u : Value) (w : World) (L L2 : Nat), RdE w L w.heap.size d u e.args → RdV w L2 w.heap.size rv row →
  Calls Tryz.prog 5 #[exV e u, rv] w fun e' w' => e' = .returned (valV (evE row d e)) ∧ Below w.heap.size w w') (op n k1 k2 : Int) (s nm : ByteArray) (es : List Ex) (hop : op = 10 ∨ op = 11 ∨ op = 12) (hW : wfE op n k1 k2 s nm es.length = true)
  (A : Option Addr) (c : Nat) (w : World) (L L2 : Nat) (hl : es.length ≤ 1099511627776) (hc : ∀ (k : Nat) (e : Ex), es[k]? = some e → ∃ (ad : Addr) (u : Value), A = some ad ∧ L ≤ ad.block ∧ ad.block < w.heap.size ∧ ExC w (ad.add (k * 7)) e u ∧ RdE w L w.heap.size d u e.args) (hz : RdV w L2 w.heap.size rv row) :
  Calls Tryz.prog 5 #[.agg #[.int .i64 op, .int .i64 n, .int .i64 k1, .int .i64 k2, .string s, .string nm, .slice A es.length c], rv] w fun e' w' => e' = .returned (valV (opE op n (k1, k2, s) row (es.map (evE row d)))) ∧ Below w.heap.size w w' := by
 have IH := Lib.hid IH0
 have HC := Lib.hid hc
 have HZ := Lib.hid hz
 have HF := Lib.hid (fun W => rFormed_any op n k1 k2 s nm A es.length c W hl)
 clear hc hz IH0
 rw [hW] at HF
 have HW := Lib.hid hW
 generalize hV : opE op n (k1, k2, s) row (es.map (evE row d)) = V
 obtain ⟨V1, V2, V3⟩ := V
 have HV := Lib.hid hV
 clear hW hV
 have HO0 := Lib.hid (Va.own_two (w := w) _ : Own ((w.alloc (.cells #[.int .i64 op, .int .i64 n, .int .i64 k1, .int .i64 k2, .string s, .string nm, .slice A es.length c] 26)).alloc (.cells #[.int .i64 0, .int .i64 0, .string ⟨#[]⟩] 23)) (w.heap.size + 1) 23 #[.int .i64 0, .int .i64 0, .string ⟨#[]⟩])
 have HE0 := Lib.hid ((Own.new w _ _).alloc _ : Own ((w.alloc (.cells #[.int .i64 op, .int .i64 n, .int .i64 k1, .int .i64 k2, .string s, .string nm, .slice A es.length c] 26)).alloc (.cells #[.int .i64 0, .int .i64 0, .string ⟨#[]⟩] 23)) w.heap.size 26 #[.int .i64 op, .int .i64 n, .int .i64 k1, .int .i64 k2, .string s, .string nm, .slice A es.length c])
 have HB0 := Lib.hid (show Below w.heap.size w ((w.alloc (.cells #[.int .i64 op, .int .i64 n, .int .i64 k1, .int .i64 k2, .string s, .string nm, .slice A es.length c] 26)).alloc (.cells #[.int .i64 0, .int .i64 0, .string ⟨#[]⟩] 23)) from (bel_mk w _).trans ((bel_mk _ _).mono (by simp)))
 go_enter Tryz.func5, Tryz.ntmps5
 go_wp2_with fail
 with_reducible refine (HF.out _).mono ?_
 rintro e w2 ⟨rfl, hb2⟩
 have e2 := HE0.out.below hb2 HE0.out.lt
 have o2 := HO0.out.below hb2 HO0.out.lt
 have B2 := Lib.hid (HB0.out.trans (hb2.mono HB0.out.size))
 have hg0 : w.heap.size < w2.heap.size := e2.lt
 have hg1 : w.heap.size + 1 < w2.heap.size := o2.lt
 have e3 := e2.alloc (.cells #[] 23)
 have HE3 := Lib.hid e3
 have HO3 := Lib.hid (o2.alloc (.cells #[] 23))
 have HB3 := Lib.hid (B2.out.trans ((bel_mk w2 (.cells #[] 23)).mono B2.out.size))
 have HR0 := Lib.hid (show (w2.alloc (.cells #[] 23)).ownsRow w2.heap.size 23 3 (.slice (some ⟨w2.heap.size, 0, none⟩) 0 0) ((es.take 0).map (evE row d)).length (flatV ((es.take 0).map (evE row d))) from
  ⟨rfl, .inr ⟨w2.heap.size, 0, #[], rfl, Nat.le_refl _, heap_alloc_new w2 (.cells #[] 23), Nat.le_refl _, Nat.zero_le _, rfl, rfl⟩⟩)
 clear hb2 e2 o2 e3 B2 HE0 HO0 HB0 HF
 go_wp2_with fail
 generalize hgg : w2.heap.size = g at *
 go_loopw [5, 6] (fun vb i wr => ∃ k : Nat, k ≤ es.length ∧ i = .int .i64 k ∧ Hid (wr.ownsRow g 23 3 vb ((es.take k).map (evE row d)).length (flatV ((es.take k).map (evE row d)))) ∧ Hid (Own wr w.heap.size 26 #[.int .i64 op, .int .i64 n, .int .i64 k1, .int .i64 k2, .string s, .string nm, .slice A es.length c]) ∧ Hid (Own wr (w.heap.size + 1) 23 #[.int .i64 0, .int .i64 0, .string ⟨#[]⟩]) ∧ Hid (g ≤ wr.heap.size) ∧ Below w.heap.size w wr) (fun _ i _ => es.length - (intOf i).toNat)
 case atStart => exact ⟨0, Nat.zero_le _, rfl, HR0, HE3, HO3, Lib.hid (by have := (bel_mk w2 (.cells #[] 23)).size; omega), HB3.out⟩
 case round =>
  clear HR0 HE3 HO3 HB3
  obtain ⟨k, hk, rfl, HR, HEw, HOw, HG, hbr⟩ := hrel
  have hbz := hbr.size
  have z6 := HEw.out.cell 6
  by_cases hlt : k < es.length
  ·have hki : (k : Int) < es.length := by omega
   obtain ⟨ad, x, rfl, _, hab, hxc, hxr⟩ := HC.out k _ (List.getElem?_eq_getElem hlt)
   obtain ⟨A3, c3, rfl, hl3⟩ := hxr.slice
   have hx := hxc.below hbr (by rw [add_blk]; exact hab)
   have htk : (es.take (k + 1)).map (evE row d) = ((es.take k).map (evE row d)) ++ [evE row d es[k]] := by rw [List.take_add_one, List.getElem?_eq_getElem hlt, List.map_append]; rfl
   have RX := (hxr.below hbr).more hbz (Nat.le_refl _)
   clear hxc hxr
   generalize es[k] = y at *
   obtain ⟨d0, d1, d2, d3, d4, d5, d6⟩ := hx
   have hcall := IH.out y (.slice A3 y.args.length c3) wr L L2 RX (HZ.out.step hbr (Nat.le_refl _))
   unfold exV valV at hcall
   generalize evE row d y = r at *
   obtain ⟨r1, r2, r3⟩ := r
   dsimp only at hcall
   have HX := Lib.hid hcall
   have HTK := Lib.hid htk
   have HLZ := Lib.hid (show ((es.take k).map (evE row d)).length + [((r1, r2, r3) : Vl)].length ≤ 2199023255552 by rw [List.length_map, List.length_take]; show min k es.length + 1 ≤ 2199023255552; omega)
   clear hcall htk RX
   go_wp2_with fail
   with_reducible refine HX.out.mono ?_
   rintro e w4 ⟨rfl, hb4⟩
   have HE4 := Lib.hid (HEw.out.below hb4 HEw.out.lt)
   have HO4 := Lib.hid (HOw.out.below hb4 HOw.out.lt)
   have HR4 := Lib.hid (own_below HR.out hb4)
   have HB4 := Lib.hid (hbr.trans (hb4.mono hbz))
   have HG4 := Lib.hid (Nat.le_trans HG.out hb4.size)
   clear hb4 HX HOw HEw HR z6
   have b5 := bel_mk w4 (.cells #[.int .i64 r1, .int .i64 r2, .string r3] 23)
   have HR5 := Lib.hid (own_below HR4.out b5)
   have HNEW := Lib.hid (lit_cells w4 w4.heap.size rfl r1 r2 r3)
   have HE5 := Lib.hid (HE4.out.below b5 HE4.out.lt)
   have HO5 := Lib.hid (HO4.out.below b5 HO4.out.lt)
   have HB5 := Lib.hid (HB4.out.trans (b5.mono HB4.out.size))
   have HG5 := Lib.hid (Nat.le_trans HG4.out b5.size)
   clear b5 HR4 HO4 HE4
   go_wp2_with (at_builtin; refine append_val _ rfl _ _ rfl g _ ((es.take k).map (evE row d)) rfl HR5.out ⟨w4.heap.size, 0, none⟩ [(r1, r2, r3)] 1 rfl HNEW.out HLZ.out HG5.out ?_; intro v5 w5 hR5 hb5)
   have HE6 := Lib.hid (HE5.out.below hb5 hg0)
   have HO6 := Lib.hid (HO5.out.below hb5 hg1)
   have HB6 := Lib.hid (HB5.out.trans (hb5.mono (Nat.le_of_lt hg0)))
   have HG6 := Lib.hid (Nat.le_trans HG5.out hb5.size)
   rw [← HTK.out] at hR5
   have HR6 := Lib.hid hR5
   clear hb5 hR5
   go_roundw
   case rel => exact ⟨k + 1, by omega, by go_num, HR6, HE6, HO6, HG6, HB6.out⟩
   case measure => simp [intOf]; omega
  ·have hki : ¬ (k : Int) < es.length := by omega
   have hek : k = es.length := by omega
   subst hek
   have hrow := HR.out
   rw [List.take_length] at hrow
   have hml : (es.map (evE row d)).length = es.length := List.length_map _
   have hrd := RdV.of_own hrow (by omega)
   have hvs : ∀ p ∈ es.map (evE row d), vldP p = true := fun p hp => by obtain ⟨a, _, rfl⟩ := List.mem_map.1 hp; exact vld_evE row d a
   have hwf := HW.out
   have hopv := HV.out
   have x0 := HEw.out.cell 0
   have x1 := HEw.out.cell 1
   have x2 := HEw.out.cell 2
   have x3 := HEw.out.cell 3
   have x4 := HEw.out.cell 4
   have x5 := HEw.out.cell 5
   have o0 := HOw.out
   have B0 := hbr
   have hrv := HZ.out.step hbr (Nat.le_refl _)
   clear HR HV HW IH HC hrow HOw HEw HG hlt hbr HZ
   rw [← hml] at hwf hl
   generalize es.map (evE row d) = l at *
   have HRD := Lib.hid hrd
   obtain ⟨A4, c4, rfl, hl4, hcz4⟩ := hrd
   clear hml
   rcases hop with rfl | rfl | rfl
   ·have hwl : l.length = 2 := by
     unfold wfE at hwf
     simp only [Bool.and_eq_true, decide_eq_true_eq] at hwf
     have h1 : opLo 10 = 2 := rfl
     have h2 : opHi 10 = 2 := rfl
     omega
    obtain ⟨p, q, rfl⟩ : ∃ p q, l = [p, q] := by
     match l, hwl with
     | [p, q], _ => exact ⟨p, q, rfl⟩
    obtain ⟨ad, rfl, hgad, _⟩ := hcz4 0 p rfl
    have HV0 := Lib.hid hvs
    clear hcz4 hwf hvs
    obtain ⟨a0, b0, c0⟩ := p
    obtain ⟨a1, b1, c1⟩ := q
    obtain ⟨hab, pc0, pc1, pc2⟩ := rdV_at0 HRD.out (p := (a0, b0, c0)) rfl
    obtain ⟨_, qc0, qc1, qc2⟩ := rdV_atk 1 (by decide) HRD.out (p := (a1, b1, c1)) rfl
    have HCQ := Lib.hid (fun W => rCmq_any 10 a0 b0 a1 b1 c0 c1 W (by decide))
    have hopv2 : ofP (cmqP 10 (a0, b0, c0) (a1, b1, c1)) = (V1, V2, V3) := hopv
    generalize cmqP 10 (a0, b0, c0) (a1, b1, c1) = t at *
    have hI : ∀ W, Calls Tryz.prog 22 #[.int .i64 t] W fun e w' => e = .returned (.agg #[.int .i64 V1, .int .i64 V2, .string V3]) ∧ Below W.heap.size W w' := fun W => by have h := fOf t W; rw [show ofP t = (V1, V2, V3) from hopv2] at h; exact h
    clear hopv hopv2 hrv hl hl4 HV0
    have hne : (⟨w.heap.size + 1, 0, none⟩ : Addr).block ≠ ad.block := by show w.heap.size + 1 ≠ ad.block; omega
    have hne0 : (⟨w.heap.size + 1, 0, none⟩ : Addr).block ≠ (⟨w.heap.size, 0, none⟩ : Addr).block := by show w.heap.size + 1 ≠ w.heap.size; omega
    go_wp2_with fail
    have HOD := Lib.hid (show Own wr.drew (w.heap.size + 1) 23 #[.int .i64 0, .int .i64 0, .string ⟨#[]⟩] from o0)
    have HBD := Lib.hid (show Below w.heap.size w wr.drew from B0.drew)
    have HS := Lib.hid (show ∀ w', Below wr.drew.heap.size wr.drew w' → (Below (w.heap.size + 1) wr.drew w' ∧ w'.cell? ⟨w.heap.size, 0, none⟩ = some (.int .i64 10) ∧ w'.cell? ad = some (.int .i64 a0) ∧ w'.cell? ⟨ad.block, ad.off + 1, none⟩ = some (.int .i64 b0) ∧ w'.cell? ⟨ad.block, ad.off + 2, none⟩ = some (.string c0) ∧ w'.cell? ⟨ad.block, ad.off + 3, none⟩ = some (.int .i64 a1) ∧ w'.cell? ⟨ad.block, ad.off + 3 + 1, none⟩ = some (.int .i64 b1) ∧ w'.cell? ⟨ad.block, ad.off + 3 + 2, none⟩ = some (.string c1)) from fun w' hb => ⟨hb.mono (Nat.le_of_lt HOD.out.lt), (hb.cell (p := ⟨w.heap.size, 0, none⟩) (Nat.lt_trans (Nat.lt_succ_self _) HOD.out.lt)).trans x0, (hb.cell (p := ad) (hab)).trans pc0, (hb.cell (p := ⟨ad.block, ad.off + 1, none⟩) (hab)).trans pc1, (hb.cell (p := ⟨ad.block, ad.off + 2, none⟩) (hab)).trans pc2, (hb.cell (p := ⟨ad.block, ad.off + 3, none⟩) (hab)).trans qc0, (hb.cell (p := ⟨ad.block, ad.off + 3 + 1, none⟩) (hab)).trans qc1, (hb.cell (p := ⟨ad.block, ad.off + 3 + 2, none⟩) (hab)).trans qc2⟩)
    have HT := Lib.hid (show ∀ (w' : World) (u0 u1 u2 : Value), Below wr.drew.heap.size wr.drew w' → (fun w' => Below (w.heap.size + 1) wr.drew w' ∧ w'.cell? ⟨w.heap.size, 0, none⟩ = some (.int .i64 10) ∧ w'.cell? ad = some (.int .i64 a0) ∧ w'.cell? ⟨ad.block, ad.off + 1, none⟩ = some (.int .i64 b0) ∧ w'.cell? ⟨ad.block, ad.off + 2, none⟩ = some (.string c0) ∧ w'.cell? ⟨ad.block, ad.off + 3, none⟩ = some (.int .i64 a1) ∧ w'.cell? ⟨ad.block, ad.off + 3 + 1, none⟩ = some (.int .i64 b1) ∧ w'.cell? ⟨ad.block, ad.off + 3 + 2, none⟩ = some (.string c1)) (((w'.setCell ⟨w.heap.size + 1, 0, none⟩ u0).setCell ⟨w.heap.size + 1, 1, none⟩ u1).setCell ⟨w.heap.size + 1, 2, none⟩ u2) from fun w' u0 u1 u2 hb => by
     obtain ⟨hB, hso, hsp0, hsp1, hsp2, hsq0, hsq1, hsq2⟩ := HS.out w' hb
     exact ⟨((hB.sc (w.heap.size + 1) 0 _).sc (w.heap.size + 1) 1 _).sc (w.heap.size + 1) 2 _, (World.cell?_setCell_far _ ⟨w.heap.size + 1, 2, none⟩ ⟨w.heap.size, 0, none⟩ _ hne0).trans ((World.cell?_setCell_far _ ⟨w.heap.size + 1, 1, none⟩ ⟨w.heap.size, 0, none⟩ _ hne0).trans ((World.cell?_setCell_far _ ⟨w.heap.size + 1, 0, none⟩ ⟨w.heap.size, 0, none⟩ _ hne0).trans hso)), (World.cell?_setCell_far _ ⟨w.heap.size + 1, 2, none⟩ ad _ hne).trans ((World.cell?_setCell_far _ ⟨w.heap.size + 1, 1, none⟩ ad _ hne).trans ((World.cell?_setCell_far _ ⟨w.heap.size + 1, 0, none⟩ ad _ hne).trans hsp0)), (World.cell?_setCell_far _ ⟨w.heap.size + 1, 2, none⟩ ⟨ad.block, ad.off + 1, none⟩ _ hne).trans ((World.cell?_setCell_far _ ⟨w.heap.size + 1, 1, none⟩ ⟨ad.block, ad.off + 1, none⟩ _ hne).trans ((World.cell?_setCell_far _ ⟨w.heap.size + 1, 0, none⟩ ⟨ad.block, ad.off + 1, none⟩ _ hne).trans hsp1)), (World.cell?_setCell_far _ ⟨w.heap.size + 1, 2, none⟩ ⟨ad.block, ad.off + 2, none⟩ _ hne).trans ((World.cell?_setCell_far _ ⟨w.heap.size + 1, 1, none⟩ ⟨ad.block, ad.off + 2, none⟩ _ hne).trans ((World.cell?_setCell_far _ ⟨w.heap.size + 1, 0, none⟩ ⟨ad.block, ad.off + 2, none⟩ _ hne).trans hsp2)), (World.cell?_setCell_far _ ⟨w.heap.size + 1, 2, none⟩ ⟨ad.block, ad.off + 3, none⟩ _ hne).trans ((World.cell?_setCell_far _ ⟨w.heap.size + 1, 1, none⟩ ⟨ad.block, ad.off + 3, none⟩ _ hne).trans ((World.cell?_setCell_far _ ⟨w.heap.size + 1, 0, none⟩ ⟨ad.block, ad.off + 3, none⟩ _ hne).trans hsq0)), (World.cell?_setCell_far _ ⟨w.heap.size + 1, 2, none⟩ ⟨ad.block, ad.off + 3 + 1, none⟩ _ hne).trans ((World.cell?_setCell_far _ ⟨w.heap.size + 1, 1, none⟩ ⟨ad.block, ad.off + 3 + 1, none⟩ _ hne).trans ((World.cell?_setCell_far _ ⟨w.heap.size + 1, 0, none⟩ ⟨ad.block, ad.off + 3 + 1, none⟩ _ hne).trans hsq1)), (World.cell?_setCell_far _ ⟨w.heap.size + 1, 2, none⟩ ⟨ad.block, ad.off + 3 + 2, none⟩ _ hne).trans ((World.cell?_setCell_far _ ⟨w.heap.size + 1, 1, none⟩ ⟨ad.block, ad.off + 3 + 2, none⟩ _ hne).trans ((World.cell?_setCell_far _ ⟨w.heap.size + 1, 0, none⟩ ⟨ad.block, ad.off + 3 + 2, none⟩ _ hne).trans hsq2))⟩)
    clear x0 x1 x2 x3 x4 x5 o0 B0 pc0 pc1 pc2 qc0 qc1 qc2
    go_region_held3 (fun w' => Below (w.heap.size + 1) wr.drew w' ∧ w'.cell? ⟨w.heap.size, 0, none⟩ = some (.int .i64 10) ∧ w'.cell? ad = some (.int .i64 a0) ∧ w'.cell? ⟨ad.block, ad.off + 1, none⟩ = some (.int .i64 b0) ∧ w'.cell? ⟨ad.block, ad.off + 2, none⟩ = some (.string c0) ∧ w'.cell? ⟨ad.block, ad.off + 3, none⟩ = some (.int .i64 a1) ∧ w'.cell? ⟨ad.block, ad.off + 3 + 1, none⟩ = some (.int .i64 b1) ∧ w'.cell? ⟨ad.block, ad.off + 3 + 2, none⟩ = some (.string c1))
     (first | (exact HS.out _ (Below.refl _ _)) | (exact HS.out _ hb) | (exact HT.out _ _ _ _ hb))
     ((first
      | (go_at_call 26; with_reducible refine (HCQ.out _).mono ?_; rintro e v1 ⟨rfl, hq1⟩; have d1 := (Below.refl wr.drew.heap.size wr.drew).trans (hq1.mono (Below.refl wr.drew.heap.size wr.drew).size); have y1 := HOD.out.below hq1 HOD.out.lt; have hb := d1)
      | (go_at_call 22; with_reducible refine (hI _).mono ?_; rintro e v2 ⟨rfl, hq2⟩; have d2 := d1.trans (hq2.mono d1.size); have y2 := y1.below hq2 y1.lt; have hb := d2; have g0 := y2.cell 0; have g1 := y2.cell 1; have g2 := y2.cell 2; have j0 := y2.free 0; have j1 := y2.free 1; have j2 := y2.free 2)))
    have bk := HBD.out.trans (d2.mono HBD.out.size)
    go_wp2
    (try simp only [Exit.inBlock, Exit.then]); refine bodyPost_ret_by (results_cell_row1 (by rfl) _ _ (w.heap.size + 1) _ (by rfl) (load_val (((y2.store 0 _).store 1 _).store 2 _))) ?_ ?_; (focus rfl); refine ⟨rfl, ?_⟩
    (repeat' first | (with_reducible first | exact Below.refl _ _ | assumption | refine Below.alloc ?_ ?_ _ | refine Below.drew ?_ | refine Below.setCell ?_ ?_ _ | refine Below.trans ?_ (Below.mono (by assumption) ?_)) | go_size)
   ·have hwl : l.length = 2 := by
     unfold wfE at hwf
     simp only [Bool.and_eq_true, decide_eq_true_eq] at hwf
     have h1 : opLo 11 = 2 := rfl
     have h2 : opHi 11 = 2 := rfl
     omega
    obtain ⟨p, q, rfl⟩ : ∃ p q, l = [p, q] := by
     match l, hwl with
     | [p, q], _ => exact ⟨p, q, rfl⟩
    obtain ⟨ad, rfl, hgad, _⟩ := hcz4 0 p rfl
    have HV0 := Lib.hid hvs
    clear hcz4 hwf hvs
    obtain ⟨a0, b0, c0⟩ := p
    obtain ⟨a1, b1, c1⟩ := q
    obtain ⟨hab, pc0, pc1, pc2⟩ := rdV_at0 HRD.out (p := (a0, b0, c0)) rfl
    obtain ⟨_, qc0, qc1, qc2⟩ := rdV_atk 1 (by decide) HRD.out (p := (a1, b1, c1)) rfl
    have HCQ := Lib.hid (fun W => rCmq_any 11 a0 b0 a1 b1 c0 c1 W (by decide))
    have hopv2 : ofP (cmqP 11 (a0, b0, c0) (a1, b1, c1)) = (V1, V2, V3) := hopv
    generalize cmqP 11 (a0, b0, c0) (a1, b1, c1) = t at *
    have hI : ∀ W, Calls Tryz.prog 22 #[.int .i64 t] W fun e w' => e = .returned (.agg #[.int .i64 V1, .int .i64 V2, .string V3]) ∧ Below W.heap.size W w' := fun W => by have h := fOf t W; rw [show ofP t = (V1, V2, V3) from hopv2] at h; exact h
    clear hopv hopv2 hrv hl hl4 HV0
    have hne : (⟨w.heap.size + 1, 0, none⟩ : Addr).block ≠ ad.block := by show w.heap.size + 1 ≠ ad.block; omega
    have hne0 : (⟨w.heap.size + 1, 0, none⟩ : Addr).block ≠ (⟨w.heap.size, 0, none⟩ : Addr).block := by show w.heap.size + 1 ≠ w.heap.size; omega
    go_wp2_with fail
    have HOD := Lib.hid (show Own wr.drew (w.heap.size + 1) 23 #[.int .i64 0, .int .i64 0, .string ⟨#[]⟩] from o0)
    have HBD := Lib.hid (show Below w.heap.size w wr.drew from B0.drew)
    have HS := Lib.hid (show ∀ w', Below wr.drew.heap.size wr.drew w' → (Below (w.heap.size + 1) wr.drew w' ∧ w'.cell? ⟨w.heap.size, 0, none⟩ = some (.int .i64 11) ∧ w'.cell? ad = some (.int .i64 a0) ∧ w'.cell? ⟨ad.block, ad.off + 1, none⟩ = some (.int .i64 b0) ∧ w'.cell? ⟨ad.block, ad.off + 2, none⟩ = some (.string c0) ∧ w'.cell? ⟨ad.block, ad.off + 3, none⟩ = some (.int .i64 a1) ∧ w'.cell? ⟨ad.block, ad.off + 3 + 1, none⟩ = some (.int .i64 b1) ∧ w'.cell? ⟨ad.block, ad.off + 3 + 2, none⟩ = some (.string c1)) from fun w' hb => ⟨hb.mono (Nat.le_of_lt HOD.out.lt), (hb.cell (p := ⟨w.heap.size, 0, none⟩) (Nat.lt_trans (Nat.lt_succ_self _) HOD.out.lt)).trans x0, (hb.cell (p := ad) (hab)).trans pc0, (hb.cell (p := ⟨ad.block, ad.off + 1, none⟩) (hab)).trans pc1, (hb.cell (p := ⟨ad.block, ad.off + 2, none⟩) (hab)).trans pc2, (hb.cell (p := ⟨ad.block, ad.off + 3, none⟩) (hab)).trans qc0, (hb.cell (p := ⟨ad.block, ad.off + 3 + 1, none⟩) (hab)).trans qc1, (hb.cell (p := ⟨ad.block, ad.off + 3 + 2, none⟩) (hab)).trans qc2⟩)
    have HT := Lib.hid (show ∀ (w' : World) (u0 u1 u2 : Value), Below wr.drew.heap.size wr.drew w' → (fun w' => Below (w.heap.size + 1) wr.drew w' ∧ w'.cell? ⟨w.heap.size, 0, none⟩ = some (.int .i64 11) ∧ w'.cell? ad = some (.int .i64 a0) ∧ w'.cell? ⟨ad.block, ad.off + 1, none⟩ = some (.int .i64 b0) ∧ w'.cell? ⟨ad.block, ad.off + 2, none⟩ = some (.string c0) ∧ w'.cell? ⟨ad.block, ad.off + 3, none⟩ = some (.int .i64 a1) ∧ w'.cell? ⟨ad.block, ad.off + 3 + 1, none⟩ = some (.int .i64 b1) ∧ w'.cell? ⟨ad.block, ad.off + 3 + 2, none⟩ = some (.string c1)) (((w'.setCell ⟨w.heap.size + 1, 0, none⟩ u0).setCell ⟨w.heap.size + 1, 1, none⟩ u1).setCell ⟨w.heap.size + 1, 2, none⟩ u2) from fun w' u0 u1 u2 hb => by
     obtain ⟨hB, hso, hsp0, hsp1, hsp2, hsq0, hsq1, hsq2⟩ := HS.out w' hb
     exact ⟨((hB.sc (w.heap.size + 1) 0 _).sc (w.heap.size + 1) 1 _).sc (w.heap.size + 1) 2 _, (World.cell?_setCell_far _ ⟨w.heap.size + 1, 2, none⟩ ⟨w.heap.size, 0, none⟩ _ hne0).trans ((World.cell?_setCell_far _ ⟨w.heap.size + 1, 1, none⟩ ⟨w.heap.size, 0, none⟩ _ hne0).trans ((World.cell?_setCell_far _ ⟨w.heap.size + 1, 0, none⟩ ⟨w.heap.size, 0, none⟩ _ hne0).trans hso)), (World.cell?_setCell_far _ ⟨w.heap.size + 1, 2, none⟩ ad _ hne).trans ((World.cell?_setCell_far _ ⟨w.heap.size + 1, 1, none⟩ ad _ hne).trans ((World.cell?_setCell_far _ ⟨w.heap.size + 1, 0, none⟩ ad _ hne).trans hsp0)), (World.cell?_setCell_far _ ⟨w.heap.size + 1, 2, none⟩ ⟨ad.block, ad.off + 1, none⟩ _ hne).trans ((World.cell?_setCell_far _ ⟨w.heap.size + 1, 1, none⟩ ⟨ad.block, ad.off + 1, none⟩ _ hne).trans ((World.cell?_setCell_far _ ⟨w.heap.size + 1, 0, none⟩ ⟨ad.block, ad.off + 1, none⟩ _ hne).trans hsp1)), (World.cell?_setCell_far _ ⟨w.heap.size + 1, 2, none⟩ ⟨ad.block, ad.off + 2, none⟩ _ hne).trans ((World.cell?_setCell_far _ ⟨w.heap.size + 1, 1, none⟩ ⟨ad.block, ad.off + 2, none⟩ _ hne).trans ((World.cell?_setCell_far _ ⟨w.heap.size + 1, 0, none⟩ ⟨ad.block, ad.off + 2, none⟩ _ hne).trans hsp2)), (World.cell?_setCell_far _ ⟨w.heap.size + 1, 2, none⟩ ⟨ad.block, ad.off + 3, none⟩ _ hne).trans ((World.cell?_setCell_far _ ⟨w.heap.size + 1, 1, none⟩ ⟨ad.block, ad.off + 3, none⟩ _ hne).trans ((World.cell?_setCell_far _ ⟨w.heap.size + 1, 0, none⟩ ⟨ad.block, ad.off + 3, none⟩ _ hne).trans hsq0)), (World.cell?_setCell_far _ ⟨w.heap.size + 1, 2, none⟩ ⟨ad.block, ad.off + 3 + 1, none⟩ _ hne).trans ((World.cell?_setCell_far _ ⟨w.heap.size + 1, 1, none⟩ ⟨ad.block, ad.off + 3 + 1, none⟩ _ hne).trans ((World.cell?_setCell_far _ ⟨w.heap.size + 1, 0, none⟩ ⟨ad.block, ad.off + 3 + 1, none⟩ _ hne).trans hsq1)), (World.cell?_setCell_far _ ⟨w.heap.size + 1, 2, none⟩ ⟨ad.block, ad.off + 3 + 2, none⟩ _ hne).trans ((World.cell?_setCell_far _ ⟨w.heap.size + 1, 1, none⟩ ⟨ad.block, ad.off + 3 + 2, none⟩ _ hne).trans ((World.cell?_setCell_far _ ⟨w.heap.size + 1, 0, none⟩ ⟨ad.block, ad.off + 3 + 2, none⟩ _ hne).trans hsq2))⟩)
    clear x0 x1 x2 x3 x4 x5 o0 B0 pc0 pc1 pc2 qc0 qc1 qc2
    go_region_held3 (fun w' => Below (w.heap.size + 1) wr.drew w' ∧ w'.cell? ⟨w.heap.size, 0, none⟩ = some (.int .i64 11) ∧ w'.cell? ad = some (.int .i64 a0) ∧ w'.cell? ⟨ad.block, ad.off + 1, none⟩ = some (.int .i64 b0) ∧ w'.cell? ⟨ad.block, ad.off + 2, none⟩ = some (.string c0) ∧ w'.cell? ⟨ad.block, ad.off + 3, none⟩ = some (.int .i64 a1) ∧ w'.cell? ⟨ad.block, ad.off + 3 + 1, none⟩ = some (.int .i64 b1) ∧ w'.cell? ⟨ad.block, ad.off + 3 + 2, none⟩ = some (.string c1))
     (first | (exact HS.out _ (Below.refl _ _)) | (exact HS.out _ hb) | (exact HT.out _ _ _ _ hb))
     ((first
      | (go_at_call 26; with_reducible refine (HCQ.out _).mono ?_; rintro e v1 ⟨rfl, hq1⟩; have d1 := (Below.refl wr.drew.heap.size wr.drew).trans (hq1.mono (Below.refl wr.drew.heap.size wr.drew).size); have y1 := HOD.out.below hq1 HOD.out.lt; have hb := d1)
      | (go_at_call 22; with_reducible refine (hI _).mono ?_; rintro e v2 ⟨rfl, hq2⟩; have d2 := d1.trans (hq2.mono d1.size); have y2 := y1.below hq2 y1.lt; have hb := d2; have g0 := y2.cell 0; have g1 := y2.cell 1; have g2 := y2.cell 2; have j0 := y2.free 0; have j1 := y2.free 1; have j2 := y2.free 2)))
    have bk := HBD.out.trans (d2.mono HBD.out.size)
    go_wp2
    (try simp only [Exit.inBlock, Exit.then]); refine bodyPost_ret_by (results_cell_row1 (by rfl) _ _ (w.heap.size + 1) _ (by rfl) (load_val (((y2.store 0 _).store 1 _).store 2 _))) ?_ ?_; (focus rfl); refine ⟨rfl, ?_⟩
    (repeat' first | (with_reducible first | exact Below.refl _ _ | assumption | refine Below.alloc ?_ ?_ _ | refine Below.drew ?_ | refine Below.setCell ?_ ?_ _ | refine Below.trans ?_ (Below.mono (by assumption) ?_)) | go_size)
   ·have hwl : l.length = 2 := by
     unfold wfE at hwf
     simp only [Bool.and_eq_true, decide_eq_true_eq] at hwf
     have h1 : opLo 12 = 2 := rfl
     have h2 : opHi 12 = 2 := rfl
     omega
    obtain ⟨p, q, rfl⟩ : ∃ p q, l = [p, q] := by
     match l, hwl with
     | [p, q], _ => exact ⟨p, q, rfl⟩
    obtain ⟨ad, rfl, hgad, _⟩ := hcz4 0 p rfl
    have HV0 := Lib.hid hvs
    clear hcz4 hwf hvs
    obtain ⟨a0, b0, c0⟩ := p
    obtain ⟨a1, b1, c1⟩ := q
    obtain ⟨hab, pc0, pc1, pc2⟩ := rdV_at0 HRD.out (p := (a0, b0, c0)) rfl
    obtain ⟨_, qc0, qc1, qc2⟩ := rdV_atk 1 (by decide) HRD.out (p := (a1, b1, c1)) rfl
    have HCQ := Lib.hid (fun W => rCmq_any 12 a0 b0 a1 b1 c0 c1 W (by decide))
    have hopv2 : ofP (cmqP 12 (a0, b0, c0) (a1, b1, c1)) = (V1, V2, V3) := hopv
    generalize cmqP 12 (a0, b0, c0) (a1, b1, c1) = t at *
    have hI : ∀ W, Calls Tryz.prog 22 #[.int .i64 t] W fun e w' => e = .returned (.agg #[.int .i64 V1, .int .i64 V2, .string V3]) ∧ Below W.heap.size W w' := fun W => by have h := fOf t W; rw [show ofP t = (V1, V2, V3) from hopv2] at h; exact h
    clear hopv hopv2 hrv hl hl4 HV0
    have hne : (⟨w.heap.size + 1, 0, none⟩ : Addr).block ≠ ad.block := by show w.heap.size + 1 ≠ ad.block; omega
    have hne0 : (⟨w.heap.size + 1, 0, none⟩ : Addr).block ≠ (⟨w.heap.size, 0, none⟩ : Addr).block := by show w.heap.size + 1 ≠ w.heap.size; omega
    go_wp2_with fail
    have HOD := Lib.hid (show Own wr.drew (w.heap.size + 1) 23 #[.int .i64 0, .int .i64 0, .string ⟨#[]⟩] from o0)
    have HBD := Lib.hid (show Below w.heap.size w wr.drew from B0.drew)
    have HS := Lib.hid (show ∀ w', Below wr.drew.heap.size wr.drew w' → (Below (w.heap.size + 1) wr.drew w' ∧ w'.cell? ⟨w.heap.size, 0, none⟩ = some (.int .i64 12) ∧ w'.cell? ad = some (.int .i64 a0) ∧ w'.cell? ⟨ad.block, ad.off + 1, none⟩ = some (.int .i64 b0) ∧ w'.cell? ⟨ad.block, ad.off + 2, none⟩ = some (.string c0) ∧ w'.cell? ⟨ad.block, ad.off + 3, none⟩ = some (.int .i64 a1) ∧ w'.cell? ⟨ad.block, ad.off + 3 + 1, none⟩ = some (.int .i64 b1) ∧ w'.cell? ⟨ad.block, ad.off + 3 + 2, none⟩ = some (.string c1)) from fun w' hb => ⟨hb.mono (Nat.le_of_lt HOD.out.lt), (hb.cell (p := ⟨w.heap.size, 0, none⟩) (Nat.lt_trans (Nat.lt_succ_self _) HOD.out.lt)).trans x0, (hb.cell (p := ad) (hab)).trans pc0, (hb.cell (p := ⟨ad.block, ad.off + 1, none⟩) (hab)).trans pc1, (hb.cell (p := ⟨ad.block, ad.off + 2, none⟩) (hab)).trans pc2, (hb.cell (p := ⟨ad.block, ad.off + 3, none⟩) (hab)).trans qc0, (hb.cell (p := ⟨ad.block, ad.off + 3 + 1, none⟩) (hab)).trans qc1, (hb.cell (p := ⟨ad.block, ad.off + 3 + 2, none⟩) (hab)).trans qc2⟩)
    have HT := Lib.hid (show ∀ (w' : World) (u0 u1 u2 : Value), Below wr.drew.heap.size wr.drew w' → (fun w' => Below (w.heap.size + 1) wr.drew w' ∧ w'.cell? ⟨w.heap.size, 0, none⟩ = some (.int .i64 12) ∧ w'.cell? ad = some (.int .i64 a0) ∧ w'.cell? ⟨ad.block, ad.off + 1, none⟩ = some (.int .i64 b0) ∧ w'.cell? ⟨ad.block, ad.off + 2, none⟩ = some (.string c0) ∧ w'.cell? ⟨ad.block, ad.off + 3, none⟩ = some (.int .i64 a1) ∧ w'.cell? ⟨ad.block, ad.off + 3 + 1, none⟩ = some (.int .i64 b1) ∧ w'.cell? ⟨ad.block, ad.off + 3 + 2, none⟩ = some (.string c1)) (((w'.setCell ⟨w.heap.size + 1, 0, none⟩ u0).setCell ⟨w.heap.size + 1, 1, none⟩ u1).setCell ⟨w.heap.size + 1, 2, none⟩ u2) from fun w' u0 u1 u2 hb => by
     obtain ⟨hB, hso, hsp0, hsp1, hsp2, hsq0, hsq1, hsq2⟩ := HS.out w' hb
     exact ⟨((hB.sc (w.heap.size + 1) 0 _).sc (w.heap.size + 1) 1 _).sc (w.heap.size + 1) 2 _, (World.cell?_setCell_far _ ⟨w.heap.size + 1, 2, none⟩ ⟨w.heap.size, 0, none⟩ _ hne0).trans ((World.cell?_setCell_far _ ⟨w.heap.size + 1, 1, none⟩ ⟨w.heap.size, 0, none⟩ _ hne0).trans ((World.cell?_setCell_far _ ⟨w.heap.size + 1, 0, none⟩ ⟨w.heap.size, 0, none⟩ _ hne0).trans hso)), (World.cell?_setCell_far _ ⟨w.heap.size + 1, 2, none⟩ ad _ hne).trans ((World.cell?_setCell_far _ ⟨w.heap.size + 1, 1, none⟩ ad _ hne).trans ((World.cell?_setCell_far _ ⟨w.heap.size + 1, 0, none⟩ ad _ hne).trans hsp0)), (World.cell?_setCell_far _ ⟨w.heap.size + 1, 2, none⟩ ⟨ad.block, ad.off + 1, none⟩ _ hne).trans ((World.cell?_setCell_far _ ⟨w.heap.size + 1, 1, none⟩ ⟨ad.block, ad.off + 1, none⟩ _ hne).trans ((World.cell?_setCell_far _ ⟨w.heap.size + 1, 0, none⟩ ⟨ad.block, ad.off + 1, none⟩ _ hne).trans hsp1)), (World.cell?_setCell_far _ ⟨w.heap.size + 1, 2, none⟩ ⟨ad.block, ad.off + 2, none⟩ _ hne).trans ((World.cell?_setCell_far _ ⟨w.heap.size + 1, 1, none⟩ ⟨ad.block, ad.off + 2, none⟩ _ hne).trans ((World.cell?_setCell_far _ ⟨w.heap.size + 1, 0, none⟩ ⟨ad.block, ad.off + 2, none⟩ _ hne).trans hsp2)), (World.cell?_setCell_far _ ⟨w.heap.size + 1, 2, none⟩ ⟨ad.block, ad.off + 3, none⟩ _ hne).trans ((World.cell?_setCell_far _ ⟨w.heap.size + 1, 1, none⟩ ⟨ad.block, ad.off + 3, none⟩ _ hne).trans ((World.cell?_setCell_far _ ⟨w.heap.size + 1, 0, none⟩ ⟨ad.block, ad.off + 3, none⟩ _ hne).trans hsq0)), (World.cell?_setCell_far _ ⟨w.heap.size + 1, 2, none⟩ ⟨ad.block, ad.off + 3 + 1, none⟩ _ hne).trans ((World.cell?_setCell_far _ ⟨w.heap.size + 1, 1, none⟩ ⟨ad.block, ad.off + 3 + 1, none⟩ _ hne).trans ((World.cell?_setCell_far _ ⟨w.heap.size + 1, 0, none⟩ ⟨ad.block, ad.off + 3 + 1, none⟩ _ hne).trans hsq1)), (World.cell?_setCell_far _ ⟨w.heap.size + 1, 2, none⟩ ⟨ad.block, ad.off + 3 + 2, none⟩ _ hne).trans ((World.cell?_setCell_far _ ⟨w.heap.size + 1, 1, none⟩ ⟨ad.block, ad.off + 3 + 2, none⟩ _ hne).trans ((World.cell?_setCell_far _ ⟨w.heap.size + 1, 0, none⟩ ⟨ad.block, ad.off + 3 + 2, none⟩ _ hne).trans hsq2))⟩)
    clear x0 x1 x2 x3 x4 x5 o0 B0 pc0 pc1 pc2 qc0 qc1 qc2
    go_region_held3 (fun w' => Below (w.heap.size + 1) wr.drew w' ∧ w'.cell? ⟨w.heap.size, 0, none⟩ = some (.int .i64 12) ∧ w'.cell? ad = some (.int .i64 a0) ∧ w'.cell? ⟨ad.block, ad.off + 1, none⟩ = some (.int .i64 b0) ∧ w'.cell? ⟨ad.block, ad.off + 2, none⟩ = some (.string c0) ∧ w'.cell? ⟨ad.block, ad.off + 3, none⟩ = some (.int .i64 a1) ∧ w'.cell? ⟨ad.block, ad.off + 3 + 1, none⟩ = some (.int .i64 b1) ∧ w'.cell? ⟨ad.block, ad.off + 3 + 2, none⟩ = some (.string c1))
     (first | (exact HS.out _ (Below.refl _ _)) | (exact HS.out _ hb) | (exact HT.out _ _ _ _ hb))
     ((first
      | (go_at_call 26; with_reducible refine (HCQ.out _).mono ?_; rintro e v1 ⟨rfl, hq1⟩; have d1 := (Below.refl wr.drew.heap.size wr.drew).trans (hq1.mono (Below.refl wr.drew.heap.size wr.drew).size); have y1 := HOD.out.below hq1 HOD.out.lt; have hb := d1)
      | (go_at_call 22; with_reducible refine (hI _).mono ?_; rintro e v2 ⟨rfl, hq2⟩; have d2 := d1.trans (hq2.mono d1.size); have y2 := y1.below hq2 y1.lt; have hb := d2; have g0 := y2.cell 0; have g1 := y2.cell 1; have g2 := y2.cell 2; have j0 := y2.free 0; have j1 := y2.free 1; have j2 := y2.free 2)))
    have bk := HBD.out.trans (d2.mono HBD.out.size)
    go_wp2
    (try simp only [Exit.inBlock, Exit.then]); refine bodyPost_ret_by (results_cell_row1 (by rfl) _ _ (w.heap.size + 1) _ (by rfl) (load_val (((y2.store 0 _).store 1 _).store 2 _))) ?_ ?_; (focus rfl); refine ⟨rfl, ?_⟩
    (repeat' first | (with_reducible first | exact Below.refl _ _ | assumption | refine Below.alloc ?_ ?_ _ | refine Below.drew ?_ | refine Below.setCell ?_ ?_ _ | refine Below.trans ?_ (Below.mono (by assumption) ?_)) | go_size)
end Go.Proofs.YtdhemhmgenhmaaaGreat
