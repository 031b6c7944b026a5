import Derived.Test.YtdhemhmgenhmaaaGreatQX
import Derived.Test.YtdhemhmgenhmaaaGreatMC
import Derived.WalkKit
import Derived.WalkSpells
import Derived.WalkLawsBesides
import Derived.Deep.QuietTactic
import Derived.BigQuiet
import Derived.Handy
import Derived.Lib.Hide
import Derived.Test.YtdhemhmgenhmaaaGreatQM
import Derived.Test.YtdhemhmgenhmaaaGreatSExRe
import Derived.Test.YtdhemhmgenhmaaaGreatSExJf
import Derived.Test.YtdhemhmgenhmaaaGreatQEE
import Derived.Maps.Keyed
set_option maxRecDepth 100000
set_option maxHeartbeats 25600000
set_option linter.unusedVariables false
set_option linter.unusedSimpArgs false
/-
  What the functions of predicate answer: conjuncts, conditions, equations, intervals. Conditions: none.
-/
namespace Go.Proofs.YtdhemhmgenhmaaaGreat
open Go.RowKit
def wfX (e : Ex) : Bool := wfE e.op e.n e.v.1 e.v.2.1 e.v.2.2 e.nm e.args.length
def conjE : Nat → Ex → List Ex
 | 0, _ => []
 | d + 1, e => if e.op = 5 ∧ wfX e = true then e.args.flatMap (conjE d) else [e]
theorem conjE_leaf (d : Nat) (e : Ex) (h : ¬ (e.op = 5 ∧ wfX e = true)) : conjE (d + 1) e = [e] := by
 unfold conjE
 rw [if_neg h]
theorem conjE_and (d : Nat) (e : Ex) (h : e.op = 5 ∧ wfX e = true) : conjE (d + 1) e = e.args.flatMap (conjE d) := by
 conv => lhs; unfold conjE
 rw [if_pos h]
structure Cnd where
 op : Int
 col : Int
 v : Vl
def cmqO (op : Int) : Bool := op == 7 || op == 9 || op == 10 || op == 11 || op == 12
def mirO (op : Int) : Int := if op = 9 then 11 else if op = 10 then 12 else if op = 11 then 9 else if op = 12 then 10 else op
def cndO (op : Int) (c x : Ex) : Option Cnd := if c.op = 2 ∧ x.op = 1 ∧ vldP x.v = true ∧ x.v ≠ nullP then some ⟨op, c.n, x.v⟩ else none
def condE (e : Ex) : Option Cnd :=
 match e.args with
 | [a, b] => if cmqO e.op then (if a.op = 1 then cndO (mirO e.op) b a else cndO e.op a b) else none
 | _ => none
theorem cond_vld {e : Ex} {c : Cnd} (h : condE e = some c) : vldP c.v = true ∧ c.v ≠ nullP := by
 have hc : ∀ op a b, cndO op a b = some c → vldP c.v = true ∧ c.v ≠ nullP := fun op a b h => by
  unfold cndO at h
  split at h
  ·rename_i h1
   injection h with h
   subst h
   exact ⟨h1.2.2.1, h1.2.2.2⟩
  ·cases h
 unfold condE at h
 split at h
 ·split at h
  ·split at h
   ·exact hc _ _ _ h
   ·exact hc _ _ _ h
  ·cases h
 ·cases h
structure Itv where
 lo : Vl
 ls : Bool
 hi : Vl
 hs : Bool
 im : Bool
def btw (a b : Vl) : Itv := ⟨a, false, b, false, false⟩
def itI (a b : Int) : Itv := btw (intP a) (intP b)
def allI (k : Int) : Itv := if k = 1 then itI (-1125899906842624) 1125899906842624 else if k = 3 then btw (booP false) (booP true) else btw (txtP ⟨#[]⟩) (2, 0, ⟨#[127]⟩)
def empI (i : Itv) : Bool := i.im || decide (0 < cmpP i.lo i.hi) || decide (cmpP i.lo i.hi = 0) && (i.ls || i.hs)
def abvI (i : Itv) (b : Vl) (s : Bool) : Itv := if 0 < cmpP b i.lo ∨ cmpP b i.lo = 0 ∧ s = true then { i with lo := b, ls := s } else i
def blwI (i : Itv) (b : Vl) (s : Bool) : Itv := if cmpP b i.hi < 0 ∨ cmpP b i.hi = 0 ∧ s = true then { i with hi := b, hs := s } else i
def beyI (v : Vl) (st : Int) : Vl × Bool := if v.1 = 2 then (v, true) else ((v.1, v.2.1 + st, v.2.2), false)
def narI (i : Itv) (c : Cnd) : Itv :=
 if c.v.1 ≠ i.lo.1 then { i with im := true }
 else if c.op = 7 then blwI (abvI i c.v false) c.v false
 else if c.op = 11 then abvI i (beyI c.v 1).1 (beyI c.v 1).2
 else if c.op = 12 then abvI i c.v false
 else if c.op = 9 then blwI i (beyI c.v (-1)).1 (beyI c.v (-1)).2
 else blwI i c.v false
def vldW (p : Int × Int) : Bool := decide (0 ≤ p.1) && decide (p.1 < p.2) && decide (p.2 ≤ 1099511627776)
def winB (s t : Itv) : (Int × Int) × Bool :=
 if empI s = true ∨ empI t = true ∨ vldW (s.lo.2.1, t.hi.2.1) = false then ((0, 0), false)
 else if vldW (s.hi.2.1, t.lo.2.1) = true then ((s.hi.2.1, t.lo.2.1), true) else ((s.lo.2.1, t.hi.2.1), true)
def onC (l : List Cnd) (c : Int) : List Cnd := l.filter fun x => x.col == c
def winE (l : List Cnd) (f t : Int) : (Int × Int) × Bool := winB ((onC l f).foldl narI (itI 0 1099511627775)) ((onC l t).foldl narI (itI 1 1099511627776))
def nevA (e : Ex) : Bool := e.op == 1 && (truP (evE [] 1 e) != 2)
def nevS (s : (Int → Option Itv) × Bool) (c : Cnd) : (Int → Option Itv) × Bool :=
 (fun k => if k = c.col then some (narI ((s.1 c.col).getD (allI c.v.1)) c) else s.1 k, s.2 || empI (narI ((s.1 c.col).getD (allI c.v.1)) c))
def nevE (cs : List Ex) : Bool := ((cs.filterMap condE).foldl nevS ((fun _ => none), cs.any nevA)).2
def nulX : Ex := ⟨1, 0, nullP, ⟨#[]⟩, []⟩
theorem nulX_knd (d : Nat) : kndE [] (d + 1) nulX = (0, 0) := by
 have h : exK nulX 0 = 0 := by simp [exK, chkE, wfE, knw, opLo, opHi, fldE, nulX, nullP, Va.vldV, Va.emp]
 unfold kndE
 rw [if_neg (by rw [show (([] : List Int).length : Int) = 0 from rfl, h]; simp), if_neg (by simp [nulX, ersK]), if_pos (by simp [nulX])]
 rfl
theorem nul_ers (d : Nat) : ∀ n, ersK (kndE [] (d + 1)) (List.replicate n nulX) = 0
 | 0 => rfl
 | n + 1 => by
  rw [List.replicate_succ]
  unfold ersK
  rw [nulX_knd, if_pos rfl, nul_ers d n]
theorem joinK_nul : ∀ (n : Nat) (r : Int), joinK r (List.replicate n 0) = some r
 | 0, r => rfl
 | n + 1, r => by
  rw [List.replicate_succ]
  unfold joinK
  rw [if_pos rfl, joinK_nul n r]
theorem allK_nul (k : Int) (n : Nat) : allK k (List.replicate n 0) = true := by
 unfold allK
 rw [List.all_replicate]
 simp
def ofNul (e : Ex) : Ex := ⟨e.op, e.n, e.v, e.nm, List.replicate e.args.length nulX⟩
theorem ofNul_dep (e : Ex) : depE 2 (ofNul e) ≤ 2 := depE_le 2 _
theorem resG_nul {op n k m : Int} {s nm : ByteArray} {l : Nat} (h : wfE op n k m s nm l = true) (h1 : op ≠ 1) (h2 : op ≠ 2) : (resG op (List.replicate l 0)).2 = 0 := by
 have hk : knw op = true := by unfold wfE at h; simp only [Bool.and_eq_true] at h; exact h.1.1.1
 by_cases h22 : op = 22
 ·subst h22
  have hl := wf_if h
  subst hl
  decide
 ·have hR : resG op (List.replicate l 0) = resT (opAr op) (opRs op) (List.replicate l 0) := by unfold resG; rw [if_neg h22]
  rw [hR]
  by_cases ha : opAr op = 0
  ·rw [ha, resT_any, joinK_nul]
   rfl
  ·by_cases hr : opRs op = 0
   ·exfalso
    unfold knw at hk
    unfold opAr at ha
    unfold opRs at hr
    simp only [Bool.or_eq_true, beq_iff_eq] at hk
    rcases hk with hk
    rcases (by omega : op = 1 ∨ op = 2 ∨ op = 4 ∨ op = 5 ∨ op = 6 ∨ op = 7 ∨ op = 8 ∨ op = 9 ∨ op = 10 ∨ op = 11 ∨ op = 12 ∨ op = 13 ∨ op = 14 ∨ op = 15 ∨ op = 16 ∨ op = 17 ∨ op = 18 ∨ op = 19 ∨ op = 20 ∨ op = 21 ∨ op = 22 ∨ op = 23 ∨ op = 24) with rfl | rfl | rfl | rfl | rfl | rfl | rfl | rfl | rfl | rfl | rfl | rfl | rfl | rfl | rfl | rfl | rfl | rfl | rfl | rfl | rfl | rfl | rfl <;> simp at ha hr
   ·rw [resT_to _ _ ha hr, allK_nul]
    rfl
theorem wf_chk (e : Ex) : ((chkT [] 2 (ofNul e)).2 = 0 ∨ (chkT [] 2 (ofNul e)).2 = 13) ↔ wfX e = true := by
 unfold chkT
 rw [if_neg (by have := ofNul_dep e; omega)]
 unfold kndE
 have hx : exK (ofNul e) (([] : List Int).length : Int) = chkE e.op e.n e.v.1 e.v.2.1 e.v.2.2 e.nm e.args.length 0 := by unfold exK ofNul; simp
 rw [hx]
 cases hk : knw e.op
 ·have hw : wfX e = false := by unfold wfX wfE; simp [hk]
  unfold chkE
  simp [hw, hk]
 ·cases hw : wfX e
  ·have hw' := hw
   unfold wfX at hw'
   unfold chkE
   simp [hk, hw']
  ·have hw' := hw
   unfold wfX at hw'
   have hc : chkE e.op e.n e.v.1 e.v.2.1 e.v.2.2 e.nm e.args.length 0 = if e.op = 2 ∧ idxB e.n 0 = false then 13 else 0 := by
    unfold chkE
    rw [if_neg (by simp [hk]), if_neg (by simp [hw'])]
   rw [hc]
   by_cases h2 : e.op = 2 ∧ idxB e.n 0 = false
   ·rw [if_pos h2]
    simp
   ·rw [if_neg h2, if_neg (by simp), show (ofNul e).args = List.replicate e.args.length nulX from rfl, nul_ers 0, if_neg (by simp)]
    by_cases h1 : e.op = 1
    ·rw [if_pos (show (ofNul e).op = 1 from h1)]
     simp
    ·rw [if_neg (show ¬ (ofNul e).op = 1 from h1)]
     by_cases h3 : e.op = 2
     ·rw [if_pos (show (ofNul e).op = 2 from h3)]
      simp
     ·rw [if_neg (show ¬ (ofNul e).op = 2 from h3), List.map_replicate, nulX_knd]
      have := resG_nul hw' h1 h3
      show ((resG e.op (List.replicate e.args.length 0)).2 = 0 ∨ _) ↔ _
      simp [this]
theorem rEvG_g (rv : Value) (row : List Vl) (d : Nat) (IH0 : ∀ (e : Ex) (u : Value) (w : World) (L L2 : Nat), RdE w L w.heap.size d u e.args → RdV w L2 w.heap.size rv row →
  Calls Tryz.prog 5 #[exV e u, rv] w fun e' w' => e' = .returned (valV (evE row d e)) ∧ Below w.heap.size w w') (op n k1 k2 : Int) (s nm : ByteArray) (es : List Ex) (hop : op = 22 ∨ op = 23 ∨ op = 24) (hW : wfE op n k1 k2 s nm es.length = true)
  (A : Option Addr) (c : Nat) (w : World) (L L2 : Nat) (hl : es.length ≤ 1099511627776) (hc : ∀ (k : Nat) (e : Ex), es[k]? = some e → ∃ (ad : Addr) (u : Value), A = some ad ∧ L ≤ ad.block ∧ ad.block < w.heap.size ∧ ExC w (ad.add (k * 7)) e u ∧ RdE w L w.heap.size d u e.args) (hz : RdV w L2 w.heap.size rv row) :
  Calls Tryz.prog 5 #[.agg #[.int .i64 op, .int .i64 n, .int .i64 k1, .int .i64 k2, .string s, .string nm, .slice A es.length c], rv] w fun e' w' => e' = .returned (valV (opE op n (k1, k2, s) row (es.map (evE row d)))) ∧ Below w.heap.size w w' := by
 have IH := Lib.hid IH0
 have HC := Lib.hid hc
 have HZ := Lib.hid hz
 have HF := Lib.hid (fun W => rFormed_any op n k1 k2 s nm A es.length c W hl)
 clear hc hz IH0
 rw [hW] at HF
 have HW := Lib.hid hW
 generalize hV : opE op n (k1, k2, s) row (es.map (evE row d)) = V
 obtain ⟨V1, V2, V3⟩ := V
 have HV := Lib.hid hV
 clear hW hV
 have HO0 := Lib.hid (Va.own_two (w := w) _ : Own ((w.alloc (.cells #[.int .i64 op, .int .i64 n, .int .i64 k1, .int .i64 k2, .string s, .string nm, .slice A es.length c] 26)).alloc (.cells #[.int .i64 0, .int .i64 0, .string ⟨#[]⟩] 23)) (w.heap.size + 1) 23 #[.int .i64 0, .int .i64 0, .string ⟨#[]⟩])
 have HE0 := Lib.hid ((Own.new w _ _).alloc _ : Own ((w.alloc (.cells #[.int .i64 op, .int .i64 n, .int .i64 k1, .int .i64 k2, .string s, .string nm, .slice A es.length c] 26)).alloc (.cells #[.int .i64 0, .int .i64 0, .string ⟨#[]⟩] 23)) w.heap.size 26 #[.int .i64 op, .int .i64 n, .int .i64 k1, .int .i64 k2, .string s, .string nm, .slice A es.length c])
 have HB0 := Lib.hid (show Below w.heap.size w ((w.alloc (.cells #[.int .i64 op, .int .i64 n, .int .i64 k1, .int .i64 k2, .string s, .string nm, .slice A es.length c] 26)).alloc (.cells #[.int .i64 0, .int .i64 0, .string ⟨#[]⟩] 23)) from (bel_mk w _).trans ((bel_mk _ _).mono (by simp)))
 go_enter Tryz.func5, Tryz.ntmps5
 go_wp2_with fail
 with_reducible refine (HF.out _).mono ?_
 rintro e w2 ⟨rfl, hb2⟩
 have e2 := HE0.out.below hb2 HE0.out.lt
 have o2 := HO0.out.below hb2 HO0.out.lt
 have B2 := Lib.hid (HB0.out.trans (hb2.mono HB0.out.size))
 have hg0 : w.heap.size < w2.heap.size := e2.lt
 have hg1 : w.heap.size + 1 < w2.heap.size := o2.lt
 have e3 := e2.alloc (.cells #[] 23)
 have HE3 := Lib.hid e3
 have HO3 := Lib.hid (o2.alloc (.cells #[] 23))
 have HB3 := Lib.hid (B2.out.trans ((bel_mk w2 (.cells #[] 23)).mono B2.out.size))
 have HR0 := Lib.hid (show (w2.alloc (.cells #[] 23)).ownsRow w2.heap.size 23 3 (.slice (some ⟨w2.heap.size, 0, none⟩) 0 0) ((es.take 0).map (evE row d)).length (flatV ((es.take 0).map (evE row d))) from
  ⟨rfl, .inr ⟨w2.heap.size, 0, #[], rfl, Nat.le_refl _, heap_alloc_new w2 (.cells #[] 23), Nat.le_refl _, Nat.zero_le _, rfl, rfl⟩⟩)
 clear hb2 e2 o2 e3 B2 HE0 HO0 HB0 HF
 go_wp2_with fail
 generalize hgg : w2.heap.size = g at *
 go_loopw [5, 6] (fun vb i wr => ∃ k : Nat, k ≤ es.length ∧ i = .int .i64 k ∧ Hid (wr.ownsRow g 23 3 vb ((es.take k).map (evE row d)).length (flatV ((es.take k).map (evE row d)))) ∧ Hid (Own wr w.heap.size 26 #[.int .i64 op, .int .i64 n, .int .i64 k1, .int .i64 k2, .string s, .string nm, .slice A es.length c]) ∧ Hid (Own wr (w.heap.size + 1) 23 #[.int .i64 0, .int .i64 0, .string ⟨#[]⟩]) ∧ Hid (g ≤ wr.heap.size) ∧ Below w.heap.size w wr) (fun _ i _ => es.length - (intOf i).toNat)
 case atStart => exact ⟨0, Nat.zero_le _, rfl, HR0, HE3, HO3, Lib.hid (by have := (bel_mk w2 (.cells #[] 23)).size; omega), HB3.out⟩
 case round =>
  clear HR0 HE3 HO3 HB3
  obtain ⟨k, hk, rfl, HR, HEw, HOw, HG, hbr⟩ := hrel
  have hbz := hbr.size
  have z6 := HEw.out.cell 6
  by_cases hlt : k < es.length
  ·have hki : (k : Int) < es.length := by omega
   obtain ⟨ad, x, rfl, _, hab, hxc, hxr⟩ := HC.out k _ (List.getElem?_eq_getElem hlt)
   obtain ⟨A3, c3, rfl, hl3⟩ := hxr.slice
   have hx := hxc.below hbr (by rw [add_blk]; exact hab)
   have htk : (es.take (k + 1)).map (evE row d) = ((es.take k).map (evE row d)) ++ [evE row d es[k]] := by rw [List.take_add_one, List.getElem?_eq_getElem hlt, List.map_append]; rfl
   have RX := (hxr.below hbr).more hbz (Nat.le_refl _)
   clear hxc hxr
   generalize es[k] = y at *
   obtain ⟨d0, d1, d2, d3, d4, d5, d6⟩ := hx
   have hcall := IH.out y (.slice A3 y.args.length c3) wr L L2 RX (HZ.out.step hbr (Nat.le_refl _))
   unfold exV valV at hcall
   generalize evE row d y = r at *
   obtain ⟨r1, r2, r3⟩ := r
   dsimp only at hcall
   have HX := Lib.hid hcall
   have HTK := Lib.hid htk
   have HLZ := Lib.hid (show ((es.take k).map (evE row d)).length + [((r1, r2, r3) : Vl)].length ≤ 2199023255552 by rw [List.length_map, List.length_take]; show min k es.length + 1 ≤ 2199023255552; omega)
   clear hcall htk RX
   go_wp2_with fail
   with_reducible refine HX.out.mono ?_
   rintro e w4 ⟨rfl, hb4⟩
   have HE4 := Lib.hid (HEw.out.below hb4 HEw.out.lt)
   have HO4 := Lib.hid (HOw.out.below hb4 HOw.out.lt)
   have HR4 := Lib.hid (own_below HR.out hb4)
   have HB4 := Lib.hid (hbr.trans (hb4.mono hbz))
   have HG4 := Lib.hid (Nat.le_trans HG.out hb4.size)
   clear hb4 HX HOw HEw HR z6
   have b5 := bel_mk w4 (.cells #[.int .i64 r1, .int .i64 r2, .string r3] 23)
   have HR5 := Lib.hid (own_below HR4.out b5)
   have HNEW := Lib.hid (lit_cells w4 w4.heap.size rfl r1 r2 r3)
   have HE5 := Lib.hid (HE4.out.below b5 HE4.out.lt)
   have HO5 := Lib.hid (HO4.out.below b5 HO4.out.lt)
   have HB5 := Lib.hid (HB4.out.trans (b5.mono HB4.out.size))
   have HG5 := Lib.hid (Nat.le_trans HG4.out b5.size)
   clear b5 HR4 HO4 HE4
   go_wp2_with (at_builtin; refine append_val _ rfl _ _ rfl g _ ((es.take k).map (evE row d)) rfl HR5.out ⟨w4.heap.size, 0, none⟩ [(r1, r2, r3)] 1 rfl HNEW.out HLZ.out HG5.out ?_; intro v5 w5 hR5 hb5)
   have HE6 := Lib.hid (HE5.out.below hb5 hg0)
   have HO6 := Lib.hid (HO5.out.below hb5 hg1)
   have HB6 := Lib.hid (HB5.out.trans (hb5.mono (Nat.le_of_lt hg0)))
   have HG6 := Lib.hid (Nat.le_trans HG5.out hb5.size)
   rw [← HTK.out] at hR5
   have HR6 := Lib.hid hR5
   clear hb5 hR5
   go_roundw
   case rel => exact ⟨k + 1, by omega, by go_num, HR6, HE6, HO6, HG6, HB6.out⟩
   case measure => simp [intOf]; omega
  ·have hki : ¬ (k : Int) < es.length := by omega
   have hek : k = es.length := by omega
   subst hek
   have hrow := HR.out
   rw [List.take_length] at hrow
   have hml : (es.map (evE row d)).length = es.length := List.length_map _
   have hrd := RdV.of_own hrow (by omega)
   have hvs : ∀ p ∈ es.map (evE row d), vldP p = true := fun p hp => by obtain ⟨a, _, rfl⟩ := List.mem_map.1 hp; exact vld_evE row d a
   have hwf := HW.out
   have hopv := HV.out
   have x0 := HEw.out.cell 0
   have x1 := HEw.out.cell 1
   have x2 := HEw.out.cell 2
   have x3 := HEw.out.cell 3
   have x4 := HEw.out.cell 4
   have x5 := HEw.out.cell 5
   have o0 := HOw.out
   have B0 := hbr
   have hrv := HZ.out.step hbr (Nat.le_refl _)
   clear HR HV HW IH HC hrow HOw HEw HG hlt hbr HZ
   rw [← hml] at hwf hl
   generalize es.map (evE row d) = l at *
   have HRD := Lib.hid hrd
   obtain ⟨A4, c4, rfl, hl4, hcz4⟩ := hrd
   clear hml
   rcases hop with rfl | rfl | rfl
   ·have hwl : l.length = 3 := by
     unfold wfE at hwf
     simp only [Bool.and_eq_true, decide_eq_true_eq] at hwf
     have h1 : opLo 22 = 3 := rfl
     have h2 : opHi 22 = 3 := rfl
     omega
    obtain ⟨p, q, t, rfl⟩ : ∃ p q t, l = [p, q, t] := by
     match l, hwl with
     | [p, q, t], _ => exact ⟨p, q, t, rfl⟩
    obtain ⟨ad, rfl, _⟩ := hcz4 0 p rfl
    have HV0 := Lib.hid hvs
    clear hcz4 hwf hvs
    have hI := rIf_any ad c4 p q t wr g HRD.out
    rw [show (if truP p = 2 then q else t) = (V1, V2, V3) from hopv] at hI
    unfold valV at hI
    dsimp only at hI
    go_wp2_with fail
    with_reducible refine (hI).mono ?_
    rintro e w1 ⟨rfl, hb1⟩
    have o1 := o0.below hb1 o0.lt
    have B1 := B0.trans (hb1.mono B0.size)
    clear hb1
    have d0 := o1.cell 0; have e0 := o1.free 0; have d1 := o1.cell 1; have e1 := o1.free 1; have d2 := o1.cell 2; have e2 := o1.free 2; (try simp only [List.getElem?_toArray, List.getElem?_cons_zero, List.getElem?_cons_succ] at d0 d1 d2)
    go_wp2
    (try simp only [Exit.inBlock, Exit.then]); refine bodyPost_ret_by (results_cell_row1 (by rfl) _ _ (w.heap.size + 1) _ (by rfl) (load_val (((o1.store 0 _).store 1 _).store 2 _))) ?_ ?_; (focus rfl); refine ⟨rfl, ?_⟩
    (repeat' first | (with_reducible first | exact Below.refl _ _ | assumption | refine Below.alloc ?_ ?_ _ | refine Below.drew ?_ | refine Below.setCell ?_ ?_ _ | refine Below.trans ?_ (Below.mono (by assumption) ?_)) | go_size)
   ·have hI := rFst_any (.slice A4 l.length c4) l wr g HRD.out
    rw [show fstP l = (V1, V2, V3) from hopv] at hI
    unfold valV at hI
    dsimp only at hI
    go_wp2_with fail
    with_reducible refine (hI).mono ?_
    rintro e w1 ⟨rfl, hb1⟩
    have o1 := o0.below hb1 o0.lt
    have B1 := B0.trans (hb1.mono B0.size)
    clear hb1
    have d0 := o1.cell 0; have e0 := o1.free 0; have d1 := o1.cell 1; have e1 := o1.free 1; have d2 := o1.cell 2; have e2 := o1.free 2; (try simp only [List.getElem?_toArray, List.getElem?_cons_zero, List.getElem?_cons_succ] at d0 d1 d2)
    go_wp2
    (try simp only [Exit.inBlock, Exit.then]); refine bodyPost_ret_by (results_cell_row1 (by rfl) _ _ (w.heap.size + 1) _ (by rfl) (load_val (((o1.store 0 _).store 1 _).store 2 _))) ?_ ?_; (focus rfl); refine ⟨rfl, ?_⟩
    (repeat' first | (with_reducible first | exact Below.refl _ _ | assumption | refine Below.alloc ?_ ?_ _ | refine Below.drew ?_ | refine Below.setCell ?_ ?_ _ | refine Below.trans ?_ (Below.mono (by assumption) ?_)) | go_size)
   ·have hwl : l.length = 4 := by
     unfold wfE at hwf
     simp only [Bool.and_eq_true, decide_eq_true_eq] at hwf
     have h1 : opLo 24 = 4 := rfl
     have h2 : opHi 24 = 4 := rfl
     omega
    obtain ⟨p, q, r, t, rfl⟩ : ∃ p q r t, l = [p, q, r, t] := by
     match l, hwl with
     | [p, q, r, t], _ => exact ⟨p, q, r, t, rfl⟩
    obtain ⟨ad, rfl, _⟩ := hcz4 0 p rfl
    have HV0 := Lib.hid hvs
    clear hcz4 hwf hvs
    have hI := rRelated_any n ad c4 p q r t wr g HRD.out
    rw [show relP n [p, q, r, t] = (V1, V2, V3) from hopv] at hI
    unfold valV at hI
    dsimp only at hI
    go_wp2_with fail
    with_reducible refine (hI).mono ?_
    rintro e w1 ⟨rfl, hb1⟩
    have o1 := o0.below hb1 o0.lt
    have B1 := B0.trans (hb1.mono B0.size)
    clear hb1
    have d0 := o1.cell 0; have e0 := o1.free 0; have d1 := o1.cell 1; have e1 := o1.free 1; have d2 := o1.cell 2; have e2 := o1.free 2; (try simp only [List.getElem?_toArray, List.getElem?_cons_zero, List.getElem?_cons_succ] at d0 d1 d2)
    go_wp2
    (try simp only [Exit.inBlock, Exit.then]); refine bodyPost_ret_by (results_cell_row1 (by rfl) _ _ (w.heap.size + 1) _ (by rfl) (load_val (((o1.store 0 _).store 1 _).store 2 _))) ?_ ?_; (focus rfl); refine ⟨rfl, ?_⟩
    (repeat' first | (with_reducible first | exact Below.refl _ _ | assumption | refine Below.alloc ?_ ?_ _ | refine Below.drew ?_ | refine Below.setCell ?_ ?_ _ | refine Below.trans ?_ (Below.mono (by assumption) ?_)) | go_size)
end Go.Proofs.YtdhemhmgenhmaaaGreat
namespace Go.Proofs.YtdhemhmgenhmaaaGreat
open Go.RowKit Go.ChangeShapes Go.WideShapes Go.MapKept Go.ChangeMaps Go.WideElems
open Go.Maps (Keyed int_keyed keyOf_int_mk)
def itvV (i : Itv) : Value := .agg #[.int .i64 i.lo.1, .int .i64 i.lo.2.1, .string i.lo.2.2, .bool i.ls, .int .i64 i.hi.1, .int .i64 i.hi.2.1, .string i.hi.2.2, .bool i.hs, .bool i.im]
def zeroI : Itv := ⟨nullP, false, nullP, false, false⟩
def MapI (w : World) (b : Nat) (M : Int → Option Itv) : Prop :=
 ∃ (es : Array MapEntry) (clock : Nat), w.heap[b]? = some (.map es clock) ∧ (∀ x ∈ es.toList, ∃ (s : Int) (i : Itv), x.key = .int .i64 s ∧ (Lit.int .i64 s).wf = true ∧ M s = some i ∧ x.val = itvV i) ∧
  (∀ s i, M s = some i → ∃ x ∈ es.toList, x.key = .int .i64 s) ∧ (es.toList.map (·.key)).Nodup
theorem MapI.lt {w : World} {b : Nat} {M : Int → Option Itv} (h : MapI w b M) : b < w.heap.size := by
 obtain ⟨es, c, h1, _⟩ := h
 exact (Array.getElem?_eq_some_iff.1 h1).1
theorem MapI.below {B : Nat} {w w' : World} {b : Nat} {M : Int → Option Itv} (h : MapI w b M) (hb : Below B w w') (hg : b < B) : MapI w' b M := by
 obtain ⟨es, c, h1, h2⟩ := h
 exact ⟨es, c, (hb.block b hg).trans h1, h2⟩
theorem MapI.new (w : World) : MapI (w.alloc (.map #[] 0)) w.heap.size (fun _ => none) := ⟨#[], 0, heap_alloc_new w _, fun x h => by simp at h, fun s i h => by simp at h, by simp⟩
theorem lawI : Keyed Tryz.prog 3 := int_keyed Tryz.underlying3
theorem nodup_at {es : List MapEntry} (h : (es.map (·.key)).Nodup) {m j : Nat} {x y : MapEntry} (hm : es[m]? = some x) (hj : es[j]? = some y) (hk : x.key = y.key) : m = j := by
 have h1 : (es.map (·.key))[m]? = some x.key := by rw [List.getElem?_map, hm]; rfl
 have h2 : (es.map (·.key))[j]? = some y.key := by rw [List.getElem?_map, hj]; rfl
 rw [hk] at h1
 have hm1 := (List.getElem?_eq_some_iff.1 h1).1
 exact (List.getElem?_inj hm1 h).1 (h1.trans h2.symm)
theorem MapI.look {w : World} {b : Nat} {M : Int → Option Itv} (h : MapI w b M) (s : Int) (hs : (Lit.int .i64 s).wf = true) :
  (Instr.lookup 92 (.map (some b)) (.int .i64 s) true).run Tryz.prog w = .ok (.tuple #[itvV ((M s).getD zeroI), .bool (M s).isSome]) w := by
 obtain ⟨es, c, hb, h1, h2, hnd⟩ := h
 have hkey := keyOf_int_mk (P := Tryz.prog) Tryz.underlying3 hs
 have hz : (zeroValue 84).run Tryz.prog w = .ok (itvV zeroI) w := rfl
 have hks : ∀ e ∈ es.toList, ∃ l, keyOf Tryz.prog 3 e.key = some l := fun e he => by
  obtain ⟨s2, i2, e1, e2, _⟩ := h1 e he
  rw [e1]
  exact ⟨_, keyOf_int_mk Tryz.underlying3 e2⟩
 rcases lawI.find w hkey es.toList hks with ⟨f1, f2⟩ | ⟨j, e0, f1, f2, f3⟩
 ·have hn : M s = none := by
   cases hm : M s with
   | none => rfl
   | some i => obtain ⟨x, hx, hx2⟩ := h2 _ _ hm; exact absurd hx2 (f2 x hx)
  rw [hn]
  simp [Instr.lookup, run_underlying Tryz.underlying92, MapKept.run_getObj_map hb, lawI.check w _ hkey, f1, hz, Result.andThen]
 ·have hm0 : e0 ∈ es.toList := List.mem_of_getElem? f2
  obtain ⟨s2, i2, e1, e2, e3, e4⟩ := h1 e0 hm0
  rw [f3] at e1
  injection e1 with _ e1
  subst e1
  rw [e3]
  simp [Instr.lookup, run_underlying Tryz.underlying92, MapKept.run_getObj_map hb, lawI.check w _ hkey, f1, e4, Result.andThen]
theorem MapI.put {w : World} {b : Nat} {M : Int → Option Itv} (h : MapI w b M) (s : Int) (hs : (Lit.int .i64 s).wf = true) (i : Itv) :
  ∃ w', (Instr.mapUpdate 92 (.map (some b)) (.int .i64 s) (itvV i)).run Tryz.prog w = .ok () w' ∧ MapI w' b (fun k => if k = s then some i else M k) ∧ w.grownBy w' (some b) ∧ w'.heap.size = w.heap.size := by
 have hlt := h.lt
 obtain ⟨es, c, hb, h1, h2, hnd⟩ := h
 have hkey := keyOf_int_mk (P := Tryz.prog) Tryz.underlying3 hs
 have hks : ∀ e ∈ es.toList, ∃ l, keyOf Tryz.prog 3 e.key = some l := fun e he => by
  obtain ⟨s2, i2, e1, e2, _⟩ := h1 e he
  rw [e1]
  exact ⟨_, keyOf_int_mk Tryz.underlying3 e2⟩
 have hgr : ∀ o, w.grownBy (setBlock w b o) (some b) := fun o => by
  refine ⟨rfl, rfl, rfl, ?_, ?_⟩
  ·unfold setBlock; simp
  ·intro i hi hne
   have hne2 : b ≠ i := fun e => hne (by rw [e])
   unfold setBlock
   simp [hne2]
 rcases lawI.find w hkey es.toList hks with ⟨f1, f2⟩ | ⟨j, e0, f1, f2, f3⟩
 ·have hn : M s = none := by
   cases hm : M s with
   | none => rfl
   | some i => obtain ⟨x, hx, hx2⟩ := h2 _ _ hm; exact absurd hx2 (f2 x hx)
  refine ⟨setBlock w b (.map (es.push ⟨.int .i64 s, itvV i, c⟩) (c + 1)), ?_, ⟨es.push ⟨.int .i64 s, itvV i, c⟩, c + 1, ?_, ?_, ?_, ?_⟩, hgr _, ?_⟩
  ·simp [Instr.mapUpdate, run_underlying Tryz.underlying92, MapKept.run_getObj_map hb, lawI.check w false hkey, f1, MapKept.run_setObj_map _ hb, Result.andThen, setBlock]
  ·unfold setBlock
   simp [hlt]
  ·intro x hx
   simp only [Array.toList_push, List.mem_append, List.mem_singleton] at hx
   rcases hx with hx | rfl
   ·obtain ⟨s2, i2, e1, e2, e3, e4⟩ := h1 x hx
    refine ⟨s2, i2, e1, e2, ?_, e4⟩
    show (if s2 = s then some i else M s2) = some i2
    rw [if_neg]
    ·exact e3
    ·rintro rfl
     rw [hn] at e3
     cases e3
   ·exact ⟨s, i, rfl, hs, if_pos rfl, rfl⟩
  ·intro s2 i2 hs2
   replace hs2 : (if s2 = s then some i else M s2) = some i2 := hs2
   by_cases e : s2 = s
   ·subst e
    exact ⟨⟨.int .i64 s2, itvV i, c⟩, by simp, rfl⟩
   ·rw [if_neg e] at hs2
    obtain ⟨x, hx, hx2⟩ := h2 s2 i2 hs2
    exact ⟨x, by simp [hx], hx2⟩
  ·simp only [Array.toList_push, List.map_append, List.map_cons, List.map_nil]
   rw [List.nodup_append]
   refine ⟨hnd, by simp, ?_⟩
   intro a ha b2 hb2
   rw [List.mem_singleton] at hb2
   subst hb2
   obtain ⟨x, hx, rfl⟩ := List.mem_map.1 ha
   exact f2 x hx
  ·unfold setBlock; simp
 ·have hm0 : e0 ∈ es.toList := List.mem_of_getElem? f2
  have hf2 : es[j]? = some e0 := by rw [← Array.getElem?_toList]; exact f2
  have hlist : (es.modify j fun e => ⟨.int .i64 s, itvV i, e.born⟩).toList = es.toList.modify j fun e => ⟨.int .i64 s, itvV i, e.born⟩ := Array.toList_modify ..
  refine ⟨setBlock w b (.map (es.modify j fun e => ⟨.int .i64 s, itvV i, e.born⟩) c), ?_, ⟨es.modify j fun e => ⟨.int .i64 s, itvV i, e.born⟩, c, ?_, ?_, ?_, ?_⟩, hgr _, ?_⟩
  ·simp [Instr.mapUpdate, Instr.keyThatStays, run_underlying Tryz.underlying92, MapKept.run_getObj_map hb, lawI.check w false hkey, f1, hf2, f3, Instr.sameBits, MapKept.run_setObj_map _ hb, Result.andThen, setBlock]
  ·unfold setBlock
   simp [hlt]
  ·intro x hx
   rw [hlist] at hx
   obtain ⟨m, hm⟩ := List.mem_iff_getElem?.1 hx
   rw [List.getElem?_modify] at hm
   cases hem : es.toList[m]? with
   | none => rw [hem] at hm; simp at hm
   | some y =>
    rw [hem] at hm
    by_cases hjm : j = m
    ·subst hjm
     simp at hm
     subst hm
     exact ⟨s, i, rfl, hs, if_pos rfl, rfl⟩
    ·simp [hjm] at hm
     subst hm
     obtain ⟨s2, i2, e1, e2, e3, e4⟩ := h1 y (List.mem_of_getElem? hem)
     refine ⟨s2, i2, e1, e2, ?_, e4⟩
     show (if s2 = s then some i else M s2) = some i2
     rw [if_neg]
     ·exact e3
     ·rintro rfl
      exact hjm (nodup_at hnd hem f2 (e1.trans f3.symm)).symm
  ·intro s2 i2 hs2
   replace hs2 : (if s2 = s then some i else M s2) = some i2 := hs2
   rw [hlist]
   by_cases e : s2 = s
   ·subst e
    refine ⟨⟨.int .i64 s2, itvV i, e0.born⟩, List.mem_iff_getElem?.2 ⟨j, ?_⟩, rfl⟩
    rw [List.getElem?_modify, f2]
    simp
   ·rw [if_neg e] at hs2
    obtain ⟨x, hx, hx2⟩ := h2 s2 i2 hs2
    obtain ⟨m, hm⟩ := List.mem_iff_getElem?.1 hx
    refine ⟨x, List.mem_iff_getElem?.2 ⟨m, ?_⟩, hx2⟩
    have hjm : j ≠ m := by
     rintro rfl
     rw [f2] at hm
     injection hm with hm
     subst hm
     rw [hx2] at f3
     injection f3 with _ f3
     exact e f3
    rw [List.getElem?_modify, hm]
    simp [hjm]
  ·rw [hlist]
   have hk : (es.toList.modify j fun e => ⟨.int .i64 s, itvV i, e.born⟩).map (·.key) = es.toList.map (·.key) := by
    apply List.ext_getElem?
    intro m
    rw [List.getElem?_map, List.getElem?_map, List.getElem?_modify]
    by_cases hjm : j = m
    ·subst hjm
     rw [f2]
     simp [f3]
    ·simp [hjm]
   rw [hk]
   exact hnd
  ·unfold setBlock; simp
end Go.Proofs.YtdhemhmgenhmaaaGreat
