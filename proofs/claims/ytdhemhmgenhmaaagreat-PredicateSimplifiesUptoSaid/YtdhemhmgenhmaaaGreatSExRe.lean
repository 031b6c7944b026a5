import Derived.Test.YtdhemhmgenhmaaaGreatSExRd
import Derived.Test.YtdhemhmgenhmaaaGreatME
import Derived.WalkKit
import Derived.WalkSpells
import Derived.WalkLawsBesides
import Derived.Deep.QuietTactic
import Derived.BigQuiet
import Derived.Handy
import Derived.Lib.Hide
import Derived.Test.YtdhemhmgenhmaaaGreatSExJf
import Derived.Test.YtdhemhmgenhmaaaGreatQEE
set_option maxRecDepth 100000
set_option maxHeartbeats 25600000
set_option linter.unusedVariables false
set_option linter.unusedSimpArgs false
/-
  What the functions of the reference's Eval answer: relations between periods. Conditions: lengths.
-/
namespace Go.Proofs.YtdhemhmgenhmaaaGreat
open Go.RowKit
theorem rRelated_any (rel : Int) (ad : Addr) (cp : Nat) (p q r t : Vl) (w : World) (L : Nat) (hv : RdV w L w.heap.size (.slice (some ad) 4 cp) [p, q, r, t]) :
  Calls Tryz.prog 32 #[.int .i64 rel, .slice (some ad) 4 cp] w fun e w' => e = .returned (valV (relP rel [p, q, r, t])) ∧ Below w.heap.size w w' := by
 have o0 := own_onez w
 have B0 := bel_mk w (.cells #[.int .i64 0, .int .i64 0, .string ⟨#[]⟩] 23)
 obtain ⟨hab, _, pc1, _⟩ := rdV_at0 hv (p := p) rfl
 obtain ⟨_, _, qc1, _⟩ := rdV_atk 1 (by decide) hv (p := q) rfl
 obtain ⟨_, _, rc1, _⟩ := rdV_atk 2 (by decide) hv (p := r) rfl
 obtain ⟨_, _, tc1, _⟩ := rdV_atk 3 (by decide) hv (p := t) rfl
 have hAre := rAre_any _ [p, q, r, t] 1 _ L (hv.step B0 (Nat.le_refl _))
 have hb2 : areP 1 [p, q, r, t] = ([p, q, r, t].take 4).all (fun p => p.1 == 1) := rfl
 rw [hb2] at hAre
 cases hall : ([p, q, r, t].take 4).all (fun p => p.1 == 1)
 ·have hR : relP rel [p, q, r, t] = nullP := by unfold relP; rw [hall]; rfl
  rw [hR]
  rw [hall] at hAre
  have HA := Lib.hid hAre
  have hI := fun W => fNull W
  unfold valV nullP at *
  dsimp only at hI ⊢
  clear hAre hv hb2 hR hall
  go_enter Tryz.func32, Tryz.ntmps32
  go_wp2_with fail
  with_reducible refine (HA.out).mono ?_
  rintro e w1 ⟨rfl, hb1⟩
  have o1 := o0.below hb1 o0.lt
  have B1 := B0.trans (hb1.mono B0.size)
  clear hb1
  go_wp2_with fail
  with_reducible refine (hI _).mono ?_
  rintro e w2 ⟨rfl, hb2⟩
  have o2 := o1.below hb2 o1.lt
  have B2 := B1.trans (hb2.mono B1.size)
  clear hb2
  have d0 := o2.cell 0; have e0 := o2.free 0; have d1 := o2.cell 1; have e1 := o2.free 1; have d2 := o2.cell 2; have e2 := o2.free 2; (try simp only [List.getElem?_toArray, List.getElem?_cons_zero, List.getElem?_cons_succ] at d0 d1 d2)
  go_wp2
  (try simp only [Exit.inBlock, Exit.then]); refine bodyPost_ret_by (results_cell_row1 (by rfl) _ _ (w.heap.size) _ (by rfl) (load_val (((o2.store 0 _).store 1 _).store 2 _))) ?_ ?_; (focus rfl); refine ⟨rfl, ?_⟩
  (repeat' first | (with_reducible first | exact Below.refl _ _ | assumption | refine Below.alloc ?_ ?_ _ | refine Below.drew ?_ | refine Below.setCell ?_ ?_ _ | refine Below.trans ?_ (Below.mono (by assumption) ?_)) | go_size)
 ·have hR : relP rel [p, q, r, t] = if Aln.bothV p.2.1 q.2.1 r.2.1 t.2.1 then booP (Aln.relR p.2.1 q.2.1 r.2.1 t.2.1 == rel) else nullP := by unfold relP; rw [if_pos hall]; rfl
  generalize relP rel [p, q, r, t] = V at hR ⊢
  rw [hall] at hAre
  have HA := Lib.hid hAre
  have hrel := fun W => Aln.rrel_any p.2.1 q.2.1 r.2.1 t.2.1 W
  generalize p.2.1 = a at *
  generalize q.2.1 = b at *
  generalize r.2.1 = c at *
  generalize t.2.1 = d at *
  generalize Aln.relR a b c d = R at *
  have HREL := Lib.hid hrel
  have HS := Lib.hid (show ∀ w', Below w.heap.size w w' → (Below w.heap.size w w' ∧ w'.cell? ⟨ad.block, ad.off + 1, none⟩ = some (.int .i64 a) ∧ w'.cell? ⟨ad.block, ad.off + 3 + 1, none⟩ = some (.int .i64 b) ∧ w'.cell? ⟨ad.block, ad.off + 6 + 1, none⟩ = some (.int .i64 c) ∧ w'.cell? ⟨ad.block, ad.off + 9 + 1, none⟩ = some (.int .i64 d)) from fun w' hb => ⟨hb, (hb.cell (p := ⟨ad.block, ad.off + 1, none⟩) hab).trans pc1, (hb.cell (p := ⟨ad.block, ad.off + 3 + 1, none⟩) hab).trans qc1, (hb.cell (p := ⟨ad.block, ad.off + 6 + 1, none⟩) hab).trans rc1, (hb.cell (p := ⟨ad.block, ad.off + 9 + 1, none⟩) hab).trans tc1⟩)
  have HRP := Lib.hid hR
  clear hAre hv hb2 hR hrel pc1 qc1 rc1 tc1
  generalize Aln.bothV a b c d = bo at *
  go_enter Tryz.func32, Tryz.ntmps32
  go_wp2_with fail
  with_reducible refine (HA.out).mono ?_
  rintro e w1 ⟨rfl, hb1⟩
  have o1 := o0.below hb1 o0.lt
  have B1 := B0.trans (hb1.mono B0.size)
  clear hb1
  have HB5 := Lib.hid (show Below w.heap.size w w1.drew from B1.drew)
  have HB1 := Lib.hid (show Below w.heap.size w w1 from B1)
  have HO1 := Lib.hid (show Own w1 w.heap.size 23 #[.int .i64 0, .int .i64 0, .string ⟨#[]⟩] from o1)
  clear o0 B0 o1 B1
  go_wp2_with fail
  go_region_held3 (fun w' => Below w.heap.size w w' ∧ w'.cell? ⟨ad.block, ad.off + 1, none⟩ = some (.int .i64 a) ∧ w'.cell? ⟨ad.block, ad.off + 3 + 1, none⟩ = some (.int .i64 b) ∧ w'.cell? ⟨ad.block, ad.off + 6 + 1, none⟩ = some (.int .i64 c) ∧ w'.cell? ⟨ad.block, ad.off + 9 + 1, none⟩ = some (.int .i64 d))
   (first | (exact HS.out _ HB5.out) | (exact HS.out _ (HB5.out.trans ((bel_mk _ _).mono HB5.out.size))))
   (fail)
  have HB6 := Lib.hid (show Below w.heap.size w ((w1.alloc (.cells #[.int .i64 a, .int .i64 b] 55))) from (HB1.out.trans ((bel_mk w1 (.cells #[.int .i64 a, .int .i64 b] 55)).mono HB1.out.size)))
  have HO6 := Lib.hid (show Own (w1.alloc (.cells #[.int .i64 a, .int .i64 b] 55)) w.heap.size 23 #[.int .i64 0, .int .i64 0, .string ⟨#[]⟩] from HO1.out.alloc _)
  have HP6 := Lib.hid (show Own (w1.alloc (.cells #[.int .i64 a, .int .i64 b] 55)) w1.heap.size 55 #[.int .i64 a, .int .i64 b] from Own.new w1 _ _)
  clear HO1
  go_wp2_with fail
  go_region_held3 (fun w' => Below w.heap.size w w' ∧ w'.cell? ⟨ad.block, ad.off + 1, none⟩ = some (.int .i64 a) ∧ w'.cell? ⟨ad.block, ad.off + 3 + 1, none⟩ = some (.int .i64 b) ∧ w'.cell? ⟨ad.block, ad.off + 6 + 1, none⟩ = some (.int .i64 c) ∧ w'.cell? ⟨ad.block, ad.off + 9 + 1, none⟩ = some (.int .i64 d))
   (first | (exact HS.out _ HB6.out) | (exact HS.out _ (HB6.out.drew)) | (exact HS.out _ (HB6.out.drew.drew)) | (exact HS.out _ (HB6.out.trans ((bel_mk _ _).mono HB6.out.size))) | (exact HS.out _ ((HB6.out.drew).trans ((bel_mk _ _).mono (HB6.out.drew).size))) | (exact HS.out _ ((HB6.out.drew.drew).trans ((bel_mk _ _).mono (HB6.out.drew.drew).size))))
   (fail)
  have b7 := (HB6.out.trans ((bel_mk (w1.alloc (.cells #[.int .i64 a, .int .i64 b] 55)) (.cells #[.int .i64 c, .int .i64 d] 55)).mono HB6.out.size))
  have o7 : Own (((w1.alloc (.cells #[.int .i64 a, .int .i64 b] 55)).alloc (.cells #[.int .i64 c, .int .i64 d] 55)).drew.drew) w.heap.size 23 #[.int .i64 0, .int .i64 0, .string ⟨#[]⟩] := HO6.out.alloc _
  have p7 : Own (((w1.alloc (.cells #[.int .i64 a, .int .i64 b] 55)).alloc (.cells #[.int .i64 c, .int .i64 d] 55)).drew.drew) w1.heap.size 55 #[.int .i64 a, .int .i64 b] := HP6.out.alloc _
  have q7 : Own (((w1.alloc (.cells #[.int .i64 a, .int .i64 b] 55)).alloc (.cells #[.int .i64 c, .int .i64 d] 55)).drew.drew) (w1.heap.size + 1) 55 #[.int .i64 c, .int .i64 d] := by have := Own.new (w1.alloc (.cells #[.int .i64 a, .int .i64 b] 55)) 55 #[.int .i64 c, .int .i64 d]; rw [World.size_alloc] at this; exact this
  have HB7 := Lib.hid b7.drew.drew
  have HO7 := Lib.hid o7
  have pc0 := p7.cell 0
  have pc1 := p7.cell 1
  have qc0 := q7.cell 0
  have qc1 := q7.cell 1
  have hl7 := load_per p7
  have hl8 := load_per q7
  clear HB1 HB5 HB6 HO6 HP6 HS b7 o7 p7 q7
  generalize ((w1.alloc (Obj.cells #[Value.int IntKind.i64 a, Value.int IntKind.i64 b] 55)).alloc (Obj.cells #[Value.int IntKind.i64 c, Value.int IntKind.i64 d] 55)).drew.drew = W7 at *
  have HCW := fun W => fNull W
  have HBW := fun W => fBool (R == rel) W
  cases bo
  ·have HQ := Lib.hid (show V = nullP by have := HRP.out; rwa [if_neg (by simp)] at this)
   unfold valV nullP at HCW
   dsimp only at HCW
   have HCN := Lib.hid HCW
   clear HCW HBW HRP
   go_wp2_with fail
   with_reducible refine (HREL.out _).mono ?_
   rintro e w8 ⟨rfl, hb8⟩
   have o8 := HO7.out.below hb8 HO7.out.lt
   have B8 := HB7.out.trans (hb8.mono HB7.out.size)
   clear hb8
   go_wp2_with fail
   with_reducible refine (HCN.out _).mono ?_
   rintro e w9 ⟨rfl, hb9⟩
   have o9 := o8.below hb9 o8.lt
   have B9 := B8.trans (hb9.mono B8.size)
   clear hb9
   have d0 := o9.cell 0; have e0 := o9.free 0; have d1 := o9.cell 1; have e1 := o9.free 1; have d2 := o9.cell 2; have e2 := o9.free 2; (try simp only [List.getElem?_toArray, List.getElem?_cons_zero, List.getElem?_cons_succ] at d0 d1 d2)
   go_wp2
   (try simp only [Exit.inBlock, Exit.then]); refine bodyPost_ret_by (results_cell_row1 (by rfl) _ _ (w.heap.size) _ (by rfl) (load_val (((o9.store 0 _).store 1 _).store 2 _))) ?_ ?_; (focus rfl); refine ⟨by rw [HQ.out]; rfl, ?_⟩
   (repeat' first | (with_reducible first | exact Below.refl _ _ | assumption | refine Below.alloc ?_ ?_ _ | refine Below.drew ?_ | refine Below.setCell ?_ ?_ _ | refine Below.trans ?_ (Below.mono (by assumption) ?_)) | go_size)
  ·have HQ := Lib.hid (show V = booP (R == rel) by have := HRP.out; rwa [if_pos rfl] at this)
   generalize booP (R == rel) = r at HBW HQ
   obtain ⟨r1, r2, r3⟩ := r
   unfold valV at HBW
   dsimp only at HBW
   have HBN := Lib.hid HBW
   clear HCW HBW HRP
   go_wp2_with fail
   with_reducible refine (HREL.out _).mono ?_
   rintro e w8 ⟨rfl, hb8⟩
   have o8 := HO7.out.below hb8 HO7.out.lt
   have B8 := HB7.out.trans (hb8.mono HB7.out.size)
   clear hb8
   go_wp2_with fail
   with_reducible refine (HBN.out _).mono ?_
   rintro e w9 ⟨rfl, hb9⟩
   have o9 := o8.below hb9 o8.lt
   have B9 := B8.trans (hb9.mono B8.size)
   clear hb9
   have d0 := o9.cell 0; have e0 := o9.free 0; have d1 := o9.cell 1; have e1 := o9.free 1; have d2 := o9.cell 2; have e2 := o9.free 2; (try simp only [List.getElem?_toArray, List.getElem?_cons_zero, List.getElem?_cons_succ] at d0 d1 d2)
   go_wp2
   (try simp only [Exit.inBlock, Exit.then]); refine bodyPost_ret_by (results_cell_row1 (by rfl) _ _ (w.heap.size) _ (by rfl) (load_val (((o9.store 0 _).store 1 _).store 2 _))) ?_ ?_; (focus rfl); refine ⟨by rw [HQ.out]; rfl, ?_⟩
   (repeat' first | (with_reducible first | exact Below.refl _ _ | assumption | refine Below.alloc ?_ ?_ _ | refine Below.drew ?_ | refine Below.setCell ?_ ?_ _ | refine Below.trans ?_ (Below.mono (by assumption) ?_)) | go_size)
theorem rEvG_a (rv : Value) (row : List Vl) (d : Nat) (IH0 : ∀ (e : Ex) (u : Value) (w : World) (L L2 : Nat), RdE w L w.heap.size d u e.args → RdV w L2 w.heap.size rv row →
  Calls Tryz.prog 5 #[exV e u, rv] w fun e' w' => e' = .returned (valV (evE row d e)) ∧ Below w.heap.size w w') (op n k1 k2 : Int) (s nm : ByteArray) (es : List Ex) (hop : op = 1 ∨ op = 2 ∨ op = 4 ∨ op = 5 ∨ op = 6) (hW : wfE op n k1 k2 s nm es.length = true)
  (A : Option Addr) (c : Nat) (w : World) (L L2 : Nat) (hl : es.length ≤ 1099511627776) (hc : ∀ (k : Nat) (e : Ex), es[k]? = some e → ∃ (ad : Addr) (u : Value), A = some ad ∧ L ≤ ad.block ∧ ad.block < w.heap.size ∧ ExC w (ad.add (k * 7)) e u ∧ RdE w L w.heap.size d u e.args) (hz : RdV w L2 w.heap.size rv row) :
  Calls Tryz.prog 5 #[.agg #[.int .i64 op, .int .i64 n, .int .i64 k1, .int .i64 k2, .string s, .string nm, .slice A es.length c], rv] w fun e' w' => e' = .returned (valV (opE op n (k1, k2, s) row (es.map (evE row d)))) ∧ Below w.heap.size w w' := by
 have IH := Lib.hid IH0
 have HC := Lib.hid hc
 have HZ := Lib.hid hz
 have HF := Lib.hid (fun W => rFormed_any op n k1 k2 s nm A es.length c W hl)
 clear hc hz IH0
 rw [hW] at HF
 have HW := Lib.hid hW
 generalize hV : opE op n (k1, k2, s) row (es.map (evE row d)) = V
 obtain ⟨V1, V2, V3⟩ := V
 have HV := Lib.hid hV
 clear hW hV
 have HO0 := Lib.hid (Va.own_two (w := w) _ : Own ((w.alloc (.cells #[.int .i64 op, .int .i64 n, .int .i64 k1, .int .i64 k2, .string s, .string nm, .slice A es.length c] 26)).alloc (.cells #[.int .i64 0, .int .i64 0, .string ⟨#[]⟩] 23)) (w.heap.size + 1) 23 #[.int .i64 0, .int .i64 0, .string ⟨#[]⟩])
 have HE0 := Lib.hid ((Own.new w _ _).alloc _ : Own ((w.alloc (.cells #[.int .i64 op, .int .i64 n, .int .i64 k1, .int .i64 k2, .string s, .string nm, .slice A es.length c] 26)).alloc (.cells #[.int .i64 0, .int .i64 0, .string ⟨#[]⟩] 23)) w.heap.size 26 #[.int .i64 op, .int .i64 n, .int .i64 k1, .int .i64 k2, .string s, .string nm, .slice A es.length c])
 have HB0 := Lib.hid (show Below w.heap.size w ((w.alloc (.cells #[.int .i64 op, .int .i64 n, .int .i64 k1, .int .i64 k2, .string s, .string nm, .slice A es.length c] 26)).alloc (.cells #[.int .i64 0, .int .i64 0, .string ⟨#[]⟩] 23)) from (bel_mk w _).trans ((bel_mk _ _).mono (by simp)))
 go_enter Tryz.func5, Tryz.ntmps5
 go_wp2_with fail
 with_reducible refine (HF.out _).mono ?_
 rintro e w2 ⟨rfl, hb2⟩
 have e2 := HE0.out.below hb2 HE0.out.lt
 have o2 := HO0.out.below hb2 HO0.out.lt
 have B2 := Lib.hid (HB0.out.trans (hb2.mono HB0.out.size))
 have hg0 : w.heap.size < w2.heap.size := e2.lt
 have hg1 : w.heap.size + 1 < w2.heap.size := o2.lt
 have e3 := e2.alloc (.cells #[] 23)
 have HE3 := Lib.hid e3
 have HO3 := Lib.hid (o2.alloc (.cells #[] 23))
 have HB3 := Lib.hid (B2.out.trans ((bel_mk w2 (.cells #[] 23)).mono B2.out.size))
 have HR0 := Lib.hid (show (w2.alloc (.cells #[] 23)).ownsRow w2.heap.size 23 3 (.slice (some ⟨w2.heap.size, 0, none⟩) 0 0) ((es.take 0).map (evE row d)).length (flatV ((es.take 0).map (evE row d))) from
  ⟨rfl, .inr ⟨w2.heap.size, 0, #[], rfl, Nat.le_refl _, heap_alloc_new w2 (.cells #[] 23), Nat.le_refl _, Nat.zero_le _, rfl, rfl⟩⟩)
 clear hb2 e2 o2 e3 B2 HE0 HO0 HB0 HF
 go_wp2_with fail
 generalize hgg : w2.heap.size = g at *
 go_loopw [5, 6] (fun vb i wr => ∃ k : Nat, k ≤ es.length ∧ i = .int .i64 k ∧ Hid (wr.ownsRow g 23 3 vb ((es.take k).map (evE row d)).length (flatV ((es.take k).map (evE row d)))) ∧ Hid (Own wr w.heap.size 26 #[.int .i64 op, .int .i64 n, .int .i64 k1, .int .i64 k2, .string s, .string nm, .slice A es.length c]) ∧ Hid (Own wr (w.heap.size + 1) 23 #[.int .i64 0, .int .i64 0, .string ⟨#[]⟩]) ∧ Hid (g ≤ wr.heap.size) ∧ Below w.heap.size w wr) (fun _ i _ => es.length - (intOf i).toNat)
 case atStart => exact ⟨0, Nat.zero_le _, rfl, HR0, HE3, HO3, Lib.hid (by have := (bel_mk w2 (.cells #[] 23)).size; omega), HB3.out⟩
 case round =>
  clear HR0 HE3 HO3 HB3
  obtain ⟨k, hk, rfl, HR, HEw, HOw, HG, hbr⟩ := hrel
  have hbz := hbr.size
  have z6 := HEw.out.cell 6
  by_cases hlt : k < es.length
  ·have hki : (k : Int) < es.length := by omega
   obtain ⟨ad, x, rfl, _, hab, hxc, hxr⟩ := HC.out k _ (List.getElem?_eq_getElem hlt)
   obtain ⟨A3, c3, rfl, hl3⟩ := hxr.slice
   have hx := hxc.below hbr (by rw [add_blk]; exact hab)
   have htk : (es.take (k + 1)).map (evE row d) = ((es.take k).map (evE row d)) ++ [evE row d es[k]] := by rw [List.take_add_one, List.getElem?_eq_getElem hlt, List.map_append]; rfl
   have RX := (hxr.below hbr).more hbz (Nat.le_refl _)
   clear hxc hxr
   generalize es[k] = y at *
   obtain ⟨d0, d1, d2, d3, d4, d5, d6⟩ := hx
   have hcall := IH.out y (.slice A3 y.args.length c3) wr L L2 RX (HZ.out.step hbr (Nat.le_refl _))
   unfold exV valV at hcall
   generalize evE row d y = r at *
   obtain ⟨r1, r2, r3⟩ := r
   dsimp only at hcall
   have HX := Lib.hid hcall
   have HTK := Lib.hid htk
   have HLZ := Lib.hid (show ((es.take k).map (evE row d)).length + [((r1, r2, r3) : Vl)].length ≤ 2199023255552 by rw [List.length_map, List.length_take]; show min k es.length + 1 ≤ 2199023255552; omega)
   clear hcall htk RX
   go_wp2_with fail
   with_reducible refine HX.out.mono ?_
   rintro e w4 ⟨rfl, hb4⟩
   have HE4 := Lib.hid (HEw.out.below hb4 HEw.out.lt)
   have HO4 := Lib.hid (HOw.out.below hb4 HOw.out.lt)
   have HR4 := Lib.hid (own_below HR.out hb4)
   have HB4 := Lib.hid (hbr.trans (hb4.mono hbz))
   have HG4 := Lib.hid (Nat.le_trans HG.out hb4.size)
   clear hb4 HX HOw HEw HR z6
   have b5 := bel_mk w4 (.cells #[.int .i64 r1, .int .i64 r2, .string r3] 23)
   have HR5 := Lib.hid (own_below HR4.out b5)
   have HNEW := Lib.hid (lit_cells w4 w4.heap.size rfl r1 r2 r3)
   have HE5 := Lib.hid (HE4.out.below b5 HE4.out.lt)
   have HO5 := Lib.hid (HO4.out.below b5 HO4.out.lt)
   have HB5 := Lib.hid (HB4.out.trans (b5.mono HB4.out.size))
   have HG5 := Lib.hid (Nat.le_trans HG4.out b5.size)
   clear b5 HR4 HO4 HE4
   go_wp2_with (at_builtin; refine append_val _ rfl _ _ rfl g _ ((es.take k).map (evE row d)) rfl HR5.out ⟨w4.heap.size, 0, none⟩ [(r1, r2, r3)] 1 rfl HNEW.out HLZ.out HG5.out ?_; intro v5 w5 hR5 hb5)
   have HE6 := Lib.hid (HE5.out.below hb5 hg0)
   have HO6 := Lib.hid (HO5.out.below hb5 hg1)
   have HB6 := Lib.hid (HB5.out.trans (hb5.mono (Nat.le_of_lt hg0)))
   have HG6 := Lib.hid (Nat.le_trans HG5.out hb5.size)
   rw [← HTK.out] at hR5
   have HR6 := Lib.hid hR5
   clear hb5 hR5
   go_roundw
   case rel => exact ⟨k + 1, by omega, by go_num, HR6, HE6, HO6, HG6, HB6.out⟩
   case measure => simp [intOf]; omega
  ·have hki : ¬ (k : Int) < es.length := by omega
   have hek : k = es.length := by omega
   subst hek
   have hrow := HR.out
   rw [List.take_length] at hrow
   have hml : (es.map (evE row d)).length = es.length := List.length_map _
   have hrd := RdV.of_own hrow (by omega)
   have hvs : ∀ p ∈ es.map (evE row d), vldP p = true := fun p hp => by obtain ⟨a, _, rfl⟩ := List.mem_map.1 hp; exact vld_evE row d a
   have hwf := HW.out
   have hopv := HV.out
   have x0 := HEw.out.cell 0
   have x1 := HEw.out.cell 1
   have x2 := HEw.out.cell 2
   have x3 := HEw.out.cell 3
   have x4 := HEw.out.cell 4
   have x5 := HEw.out.cell 5
   have o0 := HOw.out
   have B0 := hbr
   have hrv := HZ.out.step hbr (Nat.le_refl _)
   clear HR HV HW IH HC hrow HOw HEw HG hlt hbr HZ
   rw [← hml] at hwf hl
   generalize es.map (evE row d) = l at *
   have HRD := Lib.hid hrd
   obtain ⟨A4, c4, rfl, hl4, hcz4⟩ := hrd
   clear hml
   rcases hop with rfl | rfl | rfl | rfl | rfl
   ·have hI := rLeaf_1 n k1 k2 s nm A es.length c rv wr (wf_const hwf rfl)
    rw [show ((k1, k2, s) : Vl) = (V1, V2, V3) from hopv] at hI
    unfold valV at hI
    dsimp only at hI
    go_wp2_with fail
    with_reducible refine (hI).mono ?_
    rintro e w1 ⟨rfl, hb1⟩
    have o1 := o0.below hb1 o0.lt
    have B1 := B0.trans (hb1.mono B0.size)
    clear hb1
    have d0 := o1.cell 0; have e0 := o1.free 0; have d1 := o1.cell 1; have e1 := o1.free 1; have d2 := o1.cell 2; have e2 := o1.free 2; (try simp only [List.getElem?_toArray, List.getElem?_cons_zero, List.getElem?_cons_succ] at d0 d1 d2)
    go_wp2
    (try simp only [Exit.inBlock, Exit.then]); refine bodyPost_ret_by (results_cell_row1 (by rfl) _ _ (w.heap.size + 1) _ (by rfl) (load_val (((o1.store 0 _).store 1 _).store 2 _))) ?_ ?_; (focus rfl); refine ⟨rfl, ?_⟩
    (repeat' first | (with_reducible first | exact Below.refl _ _ | assumption | refine Below.alloc ?_ ?_ _ | refine Below.drew ?_ | refine Below.setCell ?_ ?_ _ | refine Below.trans ?_ (Below.mono (by assumption) ?_)) | go_size)
   ·have hI := rLeaf_2 n k1 k2 s nm A es.length c rv row wr L2 hrv
    rw [show colP row n = (V1, V2, V3) from hopv] at hI
    unfold valV at hI
    dsimp only at hI
    go_wp2_with fail
    with_reducible refine (hI).mono ?_
    rintro e w1 ⟨rfl, hb1⟩
    have o1 := o0.below hb1 o0.lt
    have B1 := B0.trans (hb1.mono B0.size)
    clear hb1
    have d0 := o1.cell 0; have e0 := o1.free 0; have d1 := o1.cell 1; have e1 := o1.free 1; have d2 := o1.cell 2; have e2 := o1.free 2; (try simp only [List.getElem?_toArray, List.getElem?_cons_zero, List.getElem?_cons_succ] at d0 d1 d2)
    go_wp2
    (try simp only [Exit.inBlock, Exit.then]); refine bodyPost_ret_by (results_cell_row1 (by rfl) _ _ (w.heap.size + 1) _ (by rfl) (load_val (((o1.store 0 _).store 1 _).store 2 _))) ?_ ?_; (focus rfl); refine ⟨rfl, ?_⟩
    (repeat' first | (with_reducible first | exact Below.refl _ _ | assumption | refine Below.alloc ?_ ?_ _ | refine Below.drew ?_ | refine Below.setCell ?_ ?_ _ | refine Below.trans ?_ (Below.mono (by assumption) ?_)) | go_size)
   ·have hwl : l.length = 1 := by
     unfold wfE at hwf
     simp only [Bool.and_eq_true, decide_eq_true_eq] at hwf
     have h1 : opLo 4 = 1 := rfl
     have h2 : opHi 4 = 1 := rfl
     omega
    obtain ⟨p, rfl⟩ : ∃ p, l = [p] := by
     match l, hwl with
     | [p], _ => exact ⟨p, rfl⟩
    obtain ⟨ad, rfl, _⟩ := hcz4 0 p rfl
    have HV0 := Lib.hid hvs
    clear hcz4 hwf hvs
    obtain ⟨a0, b0, c0⟩ := p
    obtain ⟨hab, pc0, pc1, pc2⟩ := rdV_at0 HRD.out (p := (a0, b0, c0)) rfl
    have HT := Lib.hid (show ∀ W, Calls Tryz.prog 24 #[.agg #[.int .i64 a0, .int .i64 b0, .string c0]] W fun e w' => e = .returned (.int .i64 (truP (a0, b0, c0))) ∧ Below W.heap.size W w' from fun W => fTruth (a0, b0, c0) W)
    have hI : ∀ W, Calls Tryz.prog 22 #[.int .i64 (Va.vnot (truP (a0, b0, c0)))] W fun e w' => e = .returned (.agg #[.int .i64 V1, .int .i64 V2, .string V3]) ∧ Below W.heap.size W w' := fun W => by have h := fOf (Va.vnot (truP (a0, b0, c0))) W; rw [show ofP (Va.vnot (truP (a0, b0, c0))) = (V1, V2, V3) from hopv] at h; exact h
    generalize truP (a0, b0, c0) = t at *
    have HNo := Lib.hid (fun W => Va.rNot_any t W)
    go_wp2_with fail
    with_reducible refine (HT.out _).mono ?_
    rintro e w1 ⟨rfl, hb1⟩
    have o1 := o0.below hb1 o0.lt
    have B1 := B0.trans (hb1.mono B0.size)
    clear hb1
    go_wp2_with fail
    with_reducible refine (HNo.out _).mono ?_
    rintro e w2 ⟨rfl, hb2⟩
    have o2 := o1.below hb2 o1.lt
    have B2 := B1.trans (hb2.mono B1.size)
    clear hb2
    go_wp2_with fail
    with_reducible refine (hI _).mono ?_
    rintro e w3 ⟨rfl, hb3⟩
    have o3 := o2.below hb3 o2.lt
    have B3 := B2.trans (hb3.mono B2.size)
    clear hb3
    have d0 := o3.cell 0; have e0 := o3.free 0; have d1 := o3.cell 1; have e1 := o3.free 1; have d2 := o3.cell 2; have e2 := o3.free 2; (try simp only [List.getElem?_toArray, List.getElem?_cons_zero, List.getElem?_cons_succ] at d0 d1 d2)
    go_wp2
    (try simp only [Exit.inBlock, Exit.then]); refine bodyPost_ret_by (results_cell_row1 (by rfl) _ _ (w.heap.size + 1) _ (by rfl) (load_val (((o3.store 0 _).store 1 _).store 2 _))) ?_ ?_; (focus rfl); refine ⟨rfl, ?_⟩
    (repeat' first | (with_reducible first | exact Below.refl _ _ | assumption | refine Below.alloc ?_ ?_ _ | refine Below.drew ?_ | refine Below.setCell ?_ ?_ _ | refine Below.trans ?_ (Below.mono (by assumption) ?_)) | go_size)
   ·have h1 : 0 < l.length := by have h := wf_lo hwf; have h2 : opLo 5 = 2 := rfl; omega
    obtain ⟨ad, rfl, _⟩ := hcz4 0 _ (List.getElem?_eq_getElem h1)
    have hopv2 : ofP (logF 5 (truP (getP l 0)) l.tail) = (V1, V2, V3) := hopv
    clear hcz4 hwf hvs hopv
    have hI := rLog_5 ad 0 c4 l wr g HRD.out h1
    rw [show ofP (logF 5 (truP (getP l 0)) l.tail) = (V1, V2, V3) from hopv2] at hI
    unfold valV at hI
    dsimp only at hI
    go_wp2_with fail
    with_reducible refine (hI).mono ?_
    rintro e w1 ⟨rfl, hb1⟩
    have o1 := o0.below hb1 o0.lt
    have B1 := B0.trans (hb1.mono B0.size)
    clear hb1
    have d0 := o1.cell 0; have e0 := o1.free 0; have d1 := o1.cell 1; have e1 := o1.free 1; have d2 := o1.cell 2; have e2 := o1.free 2; (try simp only [List.getElem?_toArray, List.getElem?_cons_zero, List.getElem?_cons_succ] at d0 d1 d2)
    go_wp2
    (try simp only [Exit.inBlock, Exit.then]); refine bodyPost_ret_by (results_cell_row1 (by rfl) _ _ (w.heap.size + 1) _ (by rfl) (load_val (((o1.store 0 _).store 1 _).store 2 _))) ?_ ?_; (focus rfl); refine ⟨rfl, ?_⟩
    (repeat' first | (with_reducible first | exact Below.refl _ _ | assumption | refine Below.alloc ?_ ?_ _ | refine Below.drew ?_ | refine Below.setCell ?_ ?_ _ | refine Below.trans ?_ (Below.mono (by assumption) ?_)) | go_size)
   ·have h1 : 0 < l.length := by have h := wf_lo hwf; have h2 : opLo 6 = 2 := rfl; omega
    obtain ⟨ad, rfl, _⟩ := hcz4 0 _ (List.getElem?_eq_getElem h1)
    have hopv2 : ofP (logF 6 (truP (getP l 0)) l.tail) = (V1, V2, V3) := hopv
    clear hcz4 hwf hvs hopv
    have hI := rLog_6 ad 0 c4 l wr g HRD.out h1
    rw [show ofP (logF 6 (truP (getP l 0)) l.tail) = (V1, V2, V3) from hopv2] at hI
    unfold valV at hI
    dsimp only at hI
    go_wp2_with fail
    with_reducible refine (hI).mono ?_
    rintro e w1 ⟨rfl, hb1⟩
    have o1 := o0.below hb1 o0.lt
    have B1 := B0.trans (hb1.mono B0.size)
    clear hb1
    have d0 := o1.cell 0; have e0 := o1.free 0; have d1 := o1.cell 1; have e1 := o1.free 1; have d2 := o1.cell 2; have e2 := o1.free 2; (try simp only [List.getElem?_toArray, List.getElem?_cons_zero, List.getElem?_cons_succ] at d0 d1 d2)
    go_wp2
    (try simp only [Exit.inBlock, Exit.then]); refine bodyPost_ret_by (results_cell_row1 (by rfl) _ _ (w.heap.size + 1) _ (by rfl) (load_val (((o1.store 0 _).store 1 _).store 2 _))) ?_ ?_; (focus rfl); refine ⟨rfl, ?_⟩
    (repeat' first | (with_reducible first | exact Below.refl _ _ | assumption | refine Below.alloc ?_ ?_ _ | refine Below.drew ?_ | refine Below.setCell ?_ ?_ _ | refine Below.trans ?_ (Below.mono (by assumption) ?_)) | go_size)
end Go.Proofs.YtdhemhmgenhmaaaGreat
