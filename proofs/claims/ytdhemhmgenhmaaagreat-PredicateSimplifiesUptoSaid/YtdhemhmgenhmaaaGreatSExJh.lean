import Derived.Test.YtdhemhmgenhmaaaGreatQX
import Derived.Test.YtdhemhmgenhmaaaGreatQM
import Derived.WalkKit
import Derived.WalkSpells
import Derived.WalkLawsBesides
import Derived.Deep.QuietTactic
import Derived.BigQuiet
import Derived.Handy
import Derived.Lib.Hide
import Derived.Test.YtdhemhmgenhmaaaGreatSExRe
import Derived.Test.YtdhemhmgenhmaaaGreatSExJf
import Derived.Test.YtdhemhmgenhmaaaGreatQEE
import Derived.Test.YtdhemhmgenhmaaaGreatSExRfb
import Derived.Test.YtdhemhmgenhmaaaGreatSExRfc
import Derived.Test.YtdhemhmgenhmaaaGreatSExRfd
import Derived.Test.YtdhemhmgenhmaaaGreatSExRfe
import Derived.Test.YtdhemhmgenhmaaaGreatPA
import Derived.Test.YtdhemhmgenhmaaaGreatMG
set_option maxRecDepth 100000
set_option maxHeartbeats 25600000
set_option linter.unusedVariables false
set_option linter.unusedSimpArgs false
/-
  The kind of an expression's value: the mathematics. Conditions: none.
-/
namespace Go.Proofs.YtdhemhmgenhmaaaGreat
open Go.RowKit
theorem join_some : ∀ (zs : List Int) (r k : Int), joinK r zs = some k → (r = 0 ∨ r = k) ∧ ∀ z ∈ zs, z = 0 ∨ z = k
 | [], r, k, h => by
  unfold joinK at h
  injection h with h
  exact ⟨.inr h, fun z hz => by simp at hz⟩
 | y :: zs, r, k, h => by
  unfold joinK at h
  by_cases y0 : y = 0
  ·rw [if_pos y0] at h
   obtain ⟨h1, h2⟩ := join_some zs r k h
   exact ⟨h1, fun z hz => by rcases List.mem_cons.1 hz with rfl | hz; exact .inl y0; exact h2 z hz⟩
  ·rw [if_neg y0] at h
   by_cases hr : r ≠ 0 ∧ y ≠ r
   ·rw [if_pos hr] at h; cases h
   ·rw [if_neg hr] at h
    obtain ⟨h1, h2⟩ := join_some zs y k h
    have hy : y = k := h1.resolve_left y0
    refine ⟨?_, fun z hz => by rcases List.mem_cons.1 hz with rfl | hz; exact .inr hy; exact h2 z hz⟩
    by_cases r0 : r = 0
    ·exact .inl r0
    ·by_cases hyr : y = r
     ·exact .inr (hyr.symm.trans hy)
     ·exact absurd ⟨r0, hyr⟩ hr
def kOf (p : Vl) (k : Int) : Prop := p.1 = k ∨ p.1 = 0
theorem k_null (k : Int) : kOf nullP k := .inr rfl
theorem k_nrm {p : Vl} {k : Int} (h : kOf p k) : kOf (nrmP p) k := by
 unfold nrmP
 split
 ·exact h
 ·exact k_null k
theorem k_int (n : Int) : kOf (intP n) 1 := k_nrm (.inl rfl)
theorem k_txt (s : ByteArray) : kOf (txtP s) 2 := k_nrm (.inl rfl)
theorem k_boo (b : Bool) : kOf (booP b) 3 := .inl rfl
theorem k_of (t : Int) : kOf (ofP t) 3 := by
 unfold ofP
 split
 ·exact k_boo _
 ·split
  ·exact k_boo _
  ·exact k_null _
theorem k_mul (x y : Int) : kOf (mulP x y) 1 := by
 unfold mulP
 split
 ·exact k_null _
 ·exact k_int _
theorem k_ari (op : Int) (p q : Vl) : kOf (ariP op p q) 1 := by
 unfold ariP
 repeat' (first | exact k_int _ | exact k_null _ | exact k_mul _ _ | split)
theorem k_cat (p q : Vl) : kOf (catP p q) 2 := by
 unfold catP
 split
 ·exact k_txt _
 ·exact k_null _
theorem k_len (p : Vl) : kOf (lenP p) 1 := by
 unfold lenP
 split
 ·exact k_int _
 ·exact k_null _
theorem k_rel (n : Int) (l : List Vl) : kOf (relP n l) 3 := by
 unfold relP
 repeat' (first | exact k_boo _ | exact k_null _ | split)
theorem k_fst (k : Int) : ∀ l : List Vl, (∀ p ∈ l, kOf p k) → kOf (fstP l) k
 | [], _ => k_null k
 | p :: l, h => by
  unfold fstP
  split
  ·exact k_fst k l fun q hq => h q (List.mem_cons_of_mem _ hq)
  ·exact h p (List.mem_cons_self ..)
theorem fin_eq {p : Int × Bool} {k : Int} (h : finX p = (k, 0)) : p.2 = true ∧ p.1 = k := by
 unfold finX at h
 cases hp : p.2
 ·rw [hp] at h; simp at h
 ·rw [hp] at h; simp at h; exact ⟨rfl, h⟩
theorem ers_zero (f : Ex → Int × Int) : ∀ es : List Ex, ersK f es = 0 → ∀ a ∈ es, (f a).2 = 0
 | [], _, a, ha => by simp at ha
 | e :: es, h, a, ha => by
  unfold ersK at h
  by_cases h0 : (f e).2 = 0
  ·rw [if_pos h0] at h
   rcases List.mem_cons.1 ha with rfl | ha
   ·exact h0
   ·exact ers_zero f es h a ha
  ·rw [if_neg h0] at h; exact absurd h h0
theorem get_kind {es : List Ex} {f : Ex → Int × Int} {g : Ex → Vl} {k : Int} {i : Nat} (hk : ∀ a ∈ es, kOf (g a) (f a).1) (hi : i < es.length) (hz : (es.map fun a => (f a).1)[i]? = some k) : kOf (getP (es.map g) i) k := by
 unfold getP
 rw [List.getD_eq_getElem?_getD, List.getElem?_map, List.getElem?_eq_getElem hi]
 rw [List.getElem?_map, List.getElem?_eq_getElem hi] at hz
 have h := hk es[i] (List.getElem_mem hi)
 simp only [Option.map_some, Option.some.injEq] at hz
 rw [hz] at h
 exact h
theorem wf_one {n k m : Int} {s nm : ByteArray} {l : Nat} (h : wfE 21 n k m s nm l = true) : l = 1 := by
 unfold wfE at h
 simp only [Bool.and_eq_true, decide_eq_true_eq] at h
 have h1 : opLo 21 = 1 := rfl
 have h2 : opHi 21 = 1 := rfl
 omega
theorem kinds_ok (row : List Vl) (zs : List Int) (hlen : row.length = zs.length) (hfit : ∀ (i : Nat) (p : Vl) (z : Int), row[i]? = some p → zs[i]? = some z → kOf p z) :
  ∀ (d : Nat) (e : Ex) (k : Int), kndE zs d e = (k, 0) → kOf (evE row d e) k
 | 0, e, k, _ => k_null k
 | d + 1, e, k, h => by
  unfold kndE at h
  by_cases hx : exK e zs.length ≠ 0
  ·rw [if_pos hx] at h
   injection h with _ h2
   exact absurd h2 hx
  rw [if_neg hx] at h
  have hx0 : exK e zs.length = 0 := by simpa using hx
  obtain ⟨hwf, hidx⟩ := exK_wf hx0
  by_cases he : ersK (kndE zs d) e.args ≠ 0
  ·rw [if_pos he] at h
   injection h with _ h2
   exact absurd h2 he
  rw [if_neg he] at h
  have he0 := ers_zero (kndE zs d) e.args (by simpa using he)
  have hk : ∀ a ∈ e.args, kOf (evE row d a) (kndE zs d a).1 := fun a ha => kinds_ok row zs hlen hfit d a _ (Prod.ext rfl (he0 a ha))
  unfold evE
  rw [if_pos hwf]
  by_cases o1 : e.op = 1
  ·rw [if_pos o1] at h
   injection h with h1 _
   unfold opE
   rw [if_pos o1]
   exact .inl h1
  rw [if_neg o1] at h
  by_cases o2 : e.op = 2
  ·rw [if_pos o2] at h
   injection h with h1 _
   unfold opE
   rw [if_neg o1, if_pos o2]
   have hi := hidx o2
   unfold idxB at hi
   simp only [Bool.and_eq_true, decide_eq_true_eq] at hi
   obtain ⟨j, hj⟩ := Int.eq_ofNat_of_zero_le hi.1
   rw [hj] at h1 hi ⊢
   rw [Int.toNat_natCast] at h1
   have hjz : j < zs.length := by omega
   have hjr : j < row.length := by omega
   unfold colP
   rw [if_pos (by omega), Int.toNat_natCast, List.getElem?_eq_getElem hjr]
   dsimp only
   rw [List.getD_eq_getElem?_getD, List.getElem?_eq_getElem hjz] at h1
   rw [← h1]
   exact k_nrm (hfit j _ _ (List.getElem?_eq_getElem hjr) (List.getElem?_eq_getElem hjz))
  rw [if_neg o2] at h
  have hkn : knw e.op = true := by unfold wfE at hwf; simp only [Bool.and_eq_true] at hwf; exact hwf.1.1.1
  rw [res_same hkn o1 o2 (fun ho => by rw [List.length_map]; rw [ho] at hwf; exact wf_one hwf) (fun ho => by rw [List.length_map]; rw [ho] at hwf; exact wf_if hwf)] at h
  obtain ⟨h2, h1⟩ := fin_eq h
  unfold opE
  rw [if_neg o1, if_neg o2]
  unfold resX at h1 h2
  rcases knw_c hkn with ho | ho | ho | ho | ho | ho | ho | ho | ho | ho | ho
  ·exact absurd ho o1
  ·exact absurd ho o2
  ·rw [if_pos ho] at h1 ⊢
   rw [← h1]; exact k_of _
  ·rw [if_neg (by omega), if_pos ho] at h1 ⊢
   rw [← h1]; exact k_of _
  ·rw [if_neg (by omega), if_neg (by omega), if_pos ho] at h1
   rw [if_neg (by omega), if_neg (by omega)]
   rw [← h1]
   by_cases h18 : e.op = 18
   ·rw [if_neg (by omega), if_pos h18]; exact k_ari _ _ _
   ·rw [if_pos (by omega)]; exact k_ari _ _ _
  ·rw [ho] at h1 ⊢
   rw [← h1]; exact k_cat _ _
  ·rw [ho] at h1 ⊢
   rw [← h1]; exact k_len _
  ·rw [ho] at h1 ⊢
   rw [← h1]; exact k_boo _
  ·rw [ho] at h1 h2 hwf ⊢
   have h3 := wf_if hwf
   have hd : ((e.args.map fun a => (kndE zs d a).1).drop 1).length = 2 := by rw [List.length_drop, List.length_map, h3]
   obtain ⟨q0, q1, q2, hq⟩ : ∃ q0 q1 q2, (e.args.map fun a => (kndE zs d a).1) = [q0, q1, q2] := by
    have hl : (e.args.map fun a => (kndE zs d a).1).length = 3 := by rw [List.length_map, h3]
    match (e.args.map fun a => (kndE zs d a).1), hl with
    | [q0, q1, q2], _ => exact ⟨q0, q1, q2, rfl⟩
   have hg1 := get_kind (i := 1) (k := q1) hk (by omega) (by rw [hq]; rfl)
   have hg2 := get_kind (i := 2) (k := q2) hk (by omega) (by rw [hq]; rfl)
   rw [hq] at h1 h2
   change (joinK 0 [q1, q2]).getD 0 = k at h1
   change ((joinK 0 [q1, q2]).isSome && allK 3 [q0]) = true at h2
   cases hj : joinK 0 [q1, q2] with
   | none => rw [hj] at h2; simp at h2
   | some k' =>
    rw [hj] at h1
    have h1' : k' = k := h1
    subst h1'
    obtain ⟨_, hm⟩ := join_some _ _ _ hj
    have m1 := hm q1 (by simp)
    have m2 := hm q2 (by simp)
    change kOf (if truP (getP (e.args.map (evE row d)) 0) = 2 then getP (e.args.map (evE row d)) 1 else getP (e.args.map (evE row d)) 2) k'
    split
    ·rcases hg1 with hg | hg
     ·rcases m1 with m | m
      ·exact .inr (hg.trans m)
      ·exact .inl (hg.trans m)
     ·exact .inr hg
    ·rcases hg2 with hg | hg
     ·rcases m2 with m | m
      ·exact .inr (hg.trans m)
      ·exact .inl (hg.trans m)
     ·exact .inr hg
  ·rw [ho] at h1 h2 ⊢
   change (joinK 0 (e.args.map fun a => (kndE zs d a).1)).getD 0 = k at h1
   change (joinK 0 (e.args.map fun a => (kndE zs d a).1)).isSome = true at h2
   cases hj : joinK 0 (e.args.map fun a => (kndE zs d a).1) with
   | none => rw [hj] at h2; simp at h2
   | some k' =>
    rw [hj] at h1
    have h1' : k' = k := h1
    subst h1'
    obtain ⟨_, hm⟩ := join_some _ _ _ hj
    refine k_fst k' _ fun p hp => ?_
    obtain ⟨a, ha, rfl⟩ := List.mem_map.1 hp
    have hg := hk a ha
    have m := hm (kndE zs d a).1 (List.mem_map_of_mem (f := fun a => (kndE zs d a).1) ha)
    rcases hg with hg | hg
    ·rcases m with m | m
     ·exact .inr (hg.trans m)
     ·exact .inl (hg.trans m)
    ·exact .inr hg
  ·rw [ho] at h1 ⊢
   rw [← h1]; exact k_rel _ _
end Go.Proofs.YtdhemhmgenhmaaaGreat
namespace Go.Proofs.YtdhemhmgenhmaaaGreat
open Go.RowKit
theorem rEvG_f (rv : Value) (row : List Vl) (d : Nat) (IH0 : ∀ (e : Ex) (u : Value) (w : World) (L L2 : Nat), RdE w L w.heap.size d u e.args → RdV w L2 w.heap.size rv row →
  Calls Tryz.prog 5 #[exV e u, rv] w fun e' w' => e' = .returned (valV (evE row d e)) ∧ Below w.heap.size w w') (op n k1 k2 : Int) (s nm : ByteArray) (es : List Ex) (hop : op = 19 ∨ op = 20 ∨ op = 21) (hW : wfE op n k1 k2 s nm es.length = true)
  (A : Option Addr) (c : Nat) (w : World) (L L2 : Nat) (hl : es.length ≤ 1099511627776) (hc : ∀ (k : Nat) (e : Ex), es[k]? = some e → ∃ (ad : Addr) (u : Value), A = some ad ∧ L ≤ ad.block ∧ ad.block < w.heap.size ∧ ExC w (ad.add (k * 7)) e u ∧ RdE w L w.heap.size d u e.args) (hz : RdV w L2 w.heap.size rv row) :
  Calls Tryz.prog 5 #[.agg #[.int .i64 op, .int .i64 n, .int .i64 k1, .int .i64 k2, .string s, .string nm, .slice A es.length c], rv] w fun e' w' => e' = .returned (valV (opE op n (k1, k2, s) row (es.map (evE row d)))) ∧ Below w.heap.size w w' := by
 have IH := Lib.hid IH0
 have HC := Lib.hid hc
 have HZ := Lib.hid hz
 have HF := Lib.hid (fun W => rFormed_any op n k1 k2 s nm A es.length c W hl)
 clear hc hz IH0
 rw [hW] at HF
 have HW := Lib.hid hW
 generalize hV : opE op n (k1, k2, s) row (es.map (evE row d)) = V
 obtain ⟨V1, V2, V3⟩ := V
 have HV := Lib.hid hV
 clear hW hV
 have HO0 := Lib.hid (Va.own_two (w := w) _ : Own ((w.alloc (.cells #[.int .i64 op, .int .i64 n, .int .i64 k1, .int .i64 k2, .string s, .string nm, .slice A es.length c] 26)).alloc (.cells #[.int .i64 0, .int .i64 0, .string ⟨#[]⟩] 23)) (w.heap.size + 1) 23 #[.int .i64 0, .int .i64 0, .string ⟨#[]⟩])
 have HE0 := Lib.hid ((Own.new w _ _).alloc _ : Own ((w.alloc (.cells #[.int .i64 op, .int .i64 n, .int .i64 k1, .int .i64 k2, .string s, .string nm, .slice A es.length c] 26)).alloc (.cells #[.int .i64 0, .int .i64 0, .string ⟨#[]⟩] 23)) w.heap.size 26 #[.int .i64 op, .int .i64 n, .int .i64 k1, .int .i64 k2, .string s, .string nm, .slice A es.length c])
 have HB0 := Lib.hid (show Below w.heap.size w ((w.alloc (.cells #[.int .i64 op, .int .i64 n, .int .i64 k1, .int .i64 k2, .string s, .string nm, .slice A es.length c] 26)).alloc (.cells #[.int .i64 0, .int .i64 0, .string ⟨#[]⟩] 23)) from (bel_mk w _).trans ((bel_mk _ _).mono (by simp)))
 go_enter Tryz.func5, Tryz.ntmps5
 go_wp2_with fail
 with_reducible refine (HF.out _).mono ?_
 rintro e w2 ⟨rfl, hb2⟩
 have e2 := HE0.out.below hb2 HE0.out.lt
 have o2 := HO0.out.below hb2 HO0.out.lt
 have B2 := Lib.hid (HB0.out.trans (hb2.mono HB0.out.size))
 have hg0 : w.heap.size < w2.heap.size := e2.lt
 have hg1 : w.heap.size + 1 < w2.heap.size := o2.lt
 have e3 := e2.alloc (.cells #[] 23)
 have HE3 := Lib.hid e3
 have HO3 := Lib.hid (o2.alloc (.cells #[] 23))
 have HB3 := Lib.hid (B2.out.trans ((bel_mk w2 (.cells #[] 23)).mono B2.out.size))
 have HR0 := Lib.hid (show (w2.alloc (.cells #[] 23)).ownsRow w2.heap.size 23 3 (.slice (some ⟨w2.heap.size, 0, none⟩) 0 0) ((es.take 0).map (evE row d)).length (flatV ((es.take 0).map (evE row d))) from
  ⟨rfl, .inr ⟨w2.heap.size, 0, #[], rfl, Nat.le_refl _, heap_alloc_new w2 (.cells #[] 23), Nat.le_refl _, Nat.zero_le _, rfl, rfl⟩⟩)
 clear hb2 e2 o2 e3 B2 HE0 HO0 HB0 HF
 go_wp2_with fail
 generalize hgg : w2.heap.size = g at *
 go_loopw [5, 6] (fun vb i wr => ∃ k : Nat, k ≤ es.length ∧ i = .int .i64 k ∧ Hid (wr.ownsRow g 23 3 vb ((es.take k).map (evE row d)).length (flatV ((es.take k).map (evE row d)))) ∧ Hid (Own wr w.heap.size 26 #[.int .i64 op, .int .i64 n, .int .i64 k1, .int .i64 k2, .string s, .string nm, .slice A es.length c]) ∧ Hid (Own wr (w.heap.size + 1) 23 #[.int .i64 0, .int .i64 0, .string ⟨#[]⟩]) ∧ Hid (g ≤ wr.heap.size) ∧ Below w.heap.size w wr) (fun _ i _ => es.length - (intOf i).toNat)
 case atStart => exact ⟨0, Nat.zero_le _, rfl, HR0, HE3, HO3, Lib.hid (by have := (bel_mk w2 (.cells #[] 23)).size; omega), HB3.out⟩
 case round =>
  clear HR0 HE3 HO3 HB3
  obtain ⟨k, hk, rfl, HR, HEw, HOw, HG, hbr⟩ := hrel
  have hbz := hbr.size
  have z6 := HEw.out.cell 6
  by_cases hlt : k < es.length
  ·have hki : (k : Int) < es.length := by omega
   obtain ⟨ad, x, rfl, _, hab, hxc, hxr⟩ := HC.out k _ (List.getElem?_eq_getElem hlt)
   obtain ⟨A3, c3, rfl, hl3⟩ := hxr.slice
   have hx := hxc.below hbr (by rw [add_blk]; exact hab)
   have htk : (es.take (k + 1)).map (evE row d) = ((es.take k).map (evE row d)) ++ [evE row d es[k]] := by rw [List.take_add_one, List.getElem?_eq_getElem hlt, List.map_append]; rfl
   have RX := (hxr.below hbr).more hbz (Nat.le_refl _)
   clear hxc hxr
   generalize es[k] = y at *
   obtain ⟨d0, d1, d2, d3, d4, d5, d6⟩ := hx
   have hcall := IH.out y (.slice A3 y.args.length c3) wr L L2 RX (HZ.out.step hbr (Nat.le_refl _))
   unfold exV valV at hcall
   generalize evE row d y = r at *
   obtain ⟨r1, r2, r3⟩ := r
   dsimp only at hcall
   have HX := Lib.hid hcall
   have HTK := Lib.hid htk
   have HLZ := Lib.hid (show ((es.take k).map (evE row d)).length + [((r1, r2, r3) : Vl)].length ≤ 2199023255552 by rw [List.length_map, List.length_take]; show min k es.length + 1 ≤ 2199023255552; omega)
   clear hcall htk RX
   go_wp2_with fail
   with_reducible refine HX.out.mono ?_
   rintro e w4 ⟨rfl, hb4⟩
   have HE4 := Lib.hid (HEw.out.below hb4 HEw.out.lt)
   have HO4 := Lib.hid (HOw.out.below hb4 HOw.out.lt)
   have HR4 := Lib.hid (own_below HR.out hb4)
   have HB4 := Lib.hid (hbr.trans (hb4.mono hbz))
   have HG4 := Lib.hid (Nat.le_trans HG.out hb4.size)
   clear hb4 HX HOw HEw HR z6
   have b5 := bel_mk w4 (.cells #[.int .i64 r1, .int .i64 r2, .string r3] 23)
   have HR5 := Lib.hid (own_below HR4.out b5)
   have HNEW := Lib.hid (lit_cells w4 w4.heap.size rfl r1 r2 r3)
   have HE5 := Lib.hid (HE4.out.below b5 HE4.out.lt)
   have HO5 := Lib.hid (HO4.out.below b5 HO4.out.lt)
   have HB5 := Lib.hid (HB4.out.trans (b5.mono HB4.out.size))
   have HG5 := Lib.hid (Nat.le_trans HG4.out b5.size)
   clear b5 HR4 HO4 HE4
   go_wp2_with (at_builtin; refine append_val _ rfl _ _ rfl g _ ((es.take k).map (evE row d)) rfl HR5.out ⟨w4.heap.size, 0, none⟩ [(r1, r2, r3)] 1 rfl HNEW.out HLZ.out HG5.out ?_; intro v5 w5 hR5 hb5)
   have HE6 := Lib.hid (HE5.out.below hb5 hg0)
   have HO6 := Lib.hid (HO5.out.below hb5 hg1)
   have HB6 := Lib.hid (HB5.out.trans (hb5.mono (Nat.le_of_lt hg0)))
   have HG6 := Lib.hid (Nat.le_trans HG5.out hb5.size)
   rw [← HTK.out] at hR5
   have HR6 := Lib.hid hR5
   clear hb5 hR5
   go_roundw
   case rel => exact ⟨k + 1, by omega, by go_num, HR6, HE6, HO6, HG6, HB6.out⟩
   case measure => simp [intOf]; omega
  ·have hki : ¬ (k : Int) < es.length := by omega
   have hek : k = es.length := by omega
   subst hek
   have hrow := HR.out
   rw [List.take_length] at hrow
   have hml : (es.map (evE row d)).length = es.length := List.length_map _
   have hrd := RdV.of_own hrow (by omega)
   have hvs : ∀ p ∈ es.map (evE row d), vldP p = true := fun p hp => by obtain ⟨a, _, rfl⟩ := List.mem_map.1 hp; exact vld_evE row d a
   have hwf := HW.out
   have hopv := HV.out
   have x0 := HEw.out.cell 0
   have x1 := HEw.out.cell 1
   have x2 := HEw.out.cell 2
   have x3 := HEw.out.cell 3
   have x4 := HEw.out.cell 4
   have x5 := HEw.out.cell 5
   have o0 := HOw.out
   have B0 := hbr
   have hrv := HZ.out.step hbr (Nat.le_refl _)
   clear HR HV HW IH HC hrow HOw HEw HG hlt hbr HZ
   rw [← hml] at hwf hl
   generalize es.map (evE row d) = l at *
   have HRD := Lib.hid hrd
   obtain ⟨A4, c4, rfl, hl4, hcz4⟩ := hrd
   clear hml
   rcases hop with rfl | rfl | rfl
   ·have hwl : l.length = 2 := by
     unfold wfE at hwf
     simp only [Bool.and_eq_true, decide_eq_true_eq] at hwf
     have h1 : opLo 19 = 2 := rfl
     have h2 : opHi 19 = 2 := rfl
     omega
    obtain ⟨p, q, rfl⟩ : ∃ p q, l = [p, q] := by
     match l, hwl with
     | [p, q], _ => exact ⟨p, q, rfl⟩
    obtain ⟨ad, rfl, _⟩ := hcz4 0 p rfl
    have HV0 := Lib.hid hvs
    clear hcz4 hwf hvs
    have hI := rCat_any ad c4 p q wr g HRD.out (vld_len (HV0.out p (by simp))) (vld_len (HV0.out q (by simp)))
    rw [show catP p q = (V1, V2, V3) from hopv] at hI
    unfold valV at hI
    dsimp only at hI
    go_wp2_with fail
    with_reducible refine (hI).mono ?_
    rintro e w1 ⟨rfl, hb1⟩
    have o1 := o0.below hb1 o0.lt
    have B1 := B0.trans (hb1.mono B0.size)
    clear hb1
    have d0 := o1.cell 0; have e0 := o1.free 0; have d1 := o1.cell 1; have e1 := o1.free 1; have d2 := o1.cell 2; have e2 := o1.free 2; (try simp only [List.getElem?_toArray, List.getElem?_cons_zero, List.getElem?_cons_succ] at d0 d1 d2)
    go_wp2
    (try simp only [Exit.inBlock, Exit.then]); refine bodyPost_ret_by (results_cell_row1 (by rfl) _ _ (w.heap.size + 1) _ (by rfl) (load_val (((o1.store 0 _).store 1 _).store 2 _))) ?_ ?_; (focus rfl); refine ⟨rfl, ?_⟩
    (repeat' first | (with_reducible first | exact Below.refl _ _ | assumption | refine Below.alloc ?_ ?_ _ | refine Below.drew ?_ | refine Below.setCell ?_ ?_ _ | refine Below.trans ?_ (Below.mono (by assumption) ?_)) | go_size)
   ·have hwl : l.length = 1 := by
     unfold wfE at hwf
     simp only [Bool.and_eq_true, decide_eq_true_eq] at hwf
     have h1 : opLo 20 = 1 := rfl
     have h2 : opHi 20 = 1 := rfl
     omega
    obtain ⟨p, rfl⟩ : ∃ p, l = [p] := by
     match l, hwl with
     | [p], _ => exact ⟨p, rfl⟩
    obtain ⟨ad, rfl, _⟩ := hcz4 0 p rfl
    have HV0 := Lib.hid hvs
    clear hcz4 hwf hvs
    have hI := rLen_any ad c4 p wr g HRD.out
    rw [show lenP p = (V1, V2, V3) from hopv] at hI
    unfold valV at hI
    dsimp only at hI
    go_wp2_with fail
    with_reducible refine (hI).mono ?_
    rintro e w1 ⟨rfl, hb1⟩
    have o1 := o0.below hb1 o0.lt
    have B1 := B0.trans (hb1.mono B0.size)
    clear hb1
    have d0 := o1.cell 0; have e0 := o1.free 0; have d1 := o1.cell 1; have e1 := o1.free 1; have d2 := o1.cell 2; have e2 := o1.free 2; (try simp only [List.getElem?_toArray, List.getElem?_cons_zero, List.getElem?_cons_succ] at d0 d1 d2)
    go_wp2
    (try simp only [Exit.inBlock, Exit.then]); refine bodyPost_ret_by (results_cell_row1 (by rfl) _ _ (w.heap.size + 1) _ (by rfl) (load_val (((o1.store 0 _).store 1 _).store 2 _))) ?_ ?_; (focus rfl); refine ⟨rfl, ?_⟩
    (repeat' first | (with_reducible first | exact Below.refl _ _ | assumption | refine Below.alloc ?_ ?_ _ | refine Below.drew ?_ | refine Below.setCell ?_ ?_ _ | refine Below.trans ?_ (Below.mono (by assumption) ?_)) | go_size)
   ·have hwl : l.length = 1 := by
     unfold wfE at hwf
     simp only [Bool.and_eq_true, decide_eq_true_eq] at hwf
     have h1 : opLo 21 = 1 := rfl
     have h2 : opHi 21 = 1 := rfl
     omega
    obtain ⟨p, rfl⟩ : ∃ p, l = [p] := by
     match l, hwl with
     | [p], _ => exact ⟨p, rfl⟩
    obtain ⟨ad, rfl, _⟩ := hcz4 0 p rfl
    have HV0 := Lib.hid hvs
    clear hcz4 hwf hvs
    obtain ⟨a0, b0, c0⟩ := p
    obtain ⟨hab, pc0, pc1, pc2⟩ := rdV_at0 HRD.out (p := (a0, b0, c0)) rfl
    have hI : ∀ W, Calls Tryz.prog 30 #[.bool (a0 == 0)] W fun e w' => e = .returned (.agg #[.int .i64 V1, .int .i64 V2, .string V3]) ∧ Below W.heap.size W w' := fun W => by have h := fBool (a0 == 0) W; rw [show booP (a0 == 0) = (V1, V2, V3) from hopv] at h; exact h
    go_wp2_with fail
    with_reducible refine (hI _).mono ?_
    rintro e w1 ⟨rfl, hb1⟩
    have o1 := o0.below hb1 o0.lt
    have B1 := B0.trans (hb1.mono B0.size)
    clear hb1
    have d0 := o1.cell 0; have e0 := o1.free 0; have d1 := o1.cell 1; have e1 := o1.free 1; have d2 := o1.cell 2; have e2 := o1.free 2; (try simp only [List.getElem?_toArray, List.getElem?_cons_zero, List.getElem?_cons_succ] at d0 d1 d2)
    go_wp2
    (try simp only [Exit.inBlock, Exit.then]); refine bodyPost_ret_by (results_cell_row1 (by rfl) _ _ (w.heap.size + 1) _ (by rfl) (load_val (((o1.store 0 _).store 1 _).store 2 _))) ?_ ?_; (focus rfl); refine ⟨rfl, ?_⟩
    (repeat' first | (with_reducible first | exact Below.refl _ _ | assumption | refine Below.alloc ?_ ?_ _ | refine Below.drew ?_ | refine Below.setCell ?_ ?_ _ | refine Below.trans ?_ (Below.mono (by assumption) ?_)) | go_size)
end Go.Proofs.YtdhemhmgenhmaaaGreat
namespace Go.Proofs.YtdhemhmgenhmaaaGreat
open Go.RowKit
theorem rEval_any (rv : Value) (row : List Vl) : ∀ (d : Nat) (e : Ex) (u : Value) (w : World) (L L2 : Nat), RdE w L w.heap.size d u e.args → RdV w L2 w.heap.size rv row →
  Calls Tryz.prog 5 #[exV e u, rv] w fun e' w' => e' = .returned (valV (evE row d e)) ∧ Below w.heap.size w w'
 | 0, _, _, _, _, _, h, _ => h.elim
 | d + 1, e, u, w, L, L2, h, hz => by
  have IH := Lib.hid (rEval_any rv row d)
  obtain ⟨op, n, ⟨k1, k2, s⟩, nm, es⟩ := e
  unfold evE exV
  dsimp only at h ⊢
  obtain ⟨A, c, rfl, hl, hc⟩ := h
  have HC := Lib.hid hc
  have HZ := Lib.hid hz
  have HF := Lib.hid (fun W => rFormed_any op n k1 k2 s nm A es.length c W hl)
  cases hW : wfE op n k1 k2 s nm es.length
  ·rw [if_neg (by simp)]
   rw [hW] at HF
   have hN := fun W => fNull W
   unfold valV nullP at hN ⊢
   dsimp only at hN ⊢
   have HN := Lib.hid hN
   clear hW HC HZ IH hN
   have o0 := (Va.own_two (w := w) _ : Own ((w.alloc (.cells #[.int .i64 op, .int .i64 n, .int .i64 k1, .int .i64 k2, .string s, .string nm, .slice A es.length c] 26)).alloc (.cells #[.int .i64 0, .int .i64 0, .string ⟨#[]⟩] 23)) (w.heap.size + 1) 23 #[.int .i64 0, .int .i64 0, .string ⟨#[]⟩])
   have B0 : Below w.heap.size w ((w.alloc (.cells #[.int .i64 op, .int .i64 n, .int .i64 k1, .int .i64 k2, .string s, .string nm, .slice A es.length c] 26)).alloc (.cells #[.int .i64 0, .int .i64 0, .string ⟨#[]⟩] 23)) := (bel_mk w _).trans ((bel_mk _ _).mono (by simp))
   go_enter Tryz.func5, Tryz.ntmps5
   go_wp2_with fail
   with_reducible refine (HF.out _).mono ?_
   rintro e w1 ⟨rfl, hb1⟩
   have o1 := o0.below hb1 o0.lt
   have B1 := B0.trans (hb1.mono B0.size)
   clear hb1
   go_wp2_with fail
   with_reducible refine (HN.out _).mono ?_
   rintro e w2 ⟨rfl, hb2⟩
   have o2 := o1.below hb2 o1.lt
   have B2 := B1.trans (hb2.mono B1.size)
   clear hb2
   have d0 := o2.cell 0; have e0 := o2.free 0; have d1 := o2.cell 1; have e1 := o2.free 1; have d2 := o2.cell 2; have e2 := o2.free 2; (try simp only [List.getElem?_toArray, List.getElem?_cons_zero, List.getElem?_cons_succ] at d0 d1 d2)
   go_wp2
   (try simp only [Exit.inBlock, Exit.then]); refine bodyPost_ret_by (results_cell_row1 (by rfl) _ _ (w.heap.size + 1) _ (by rfl) (load_val (((o2.store 0 _).store 1 _).store 2 _))) ?_ ?_; (focus rfl); refine ⟨rfl, ?_⟩
   (repeat' first | (with_reducible first | exact Below.refl _ _ | assumption | refine Below.alloc ?_ ?_ _ | refine Below.drew ?_ | refine Below.setCell ?_ ?_ _ | refine Below.trans ?_ (Below.mono (by assumption) ?_)) | go_size)
  ·rw [if_pos rfl]
   have hkn := knw_cases (wf_knw hW)
   have G := fun (o : Int) => opE o n (k1, k2, s) row (es.map (evE row d))
   have ga := fun hop => rEvG_a rv row d (rEval_any rv row d) op n k1 k2 s nm es hop hW A c w L L2 hl hc hz
   have gb := fun hop => rEvG_b rv row d (rEval_any rv row d) op n k1 k2 s nm es hop hW A c w L L2 hl hc hz
   have gc := fun hop => rEvG_c rv row d (rEval_any rv row d) op n k1 k2 s nm es hop hW A c w L L2 hl hc hz
   have gd := fun hop => rEvG_d rv row d (rEval_any rv row d) op n k1 k2 s nm es hop hW A c w L L2 hl hc hz
   have ge := fun hop => rEvG_e rv row d (rEval_any rv row d) op n k1 k2 s nm es hop hW A c w L L2 hl hc hz
   have gf := fun hop => rEvG_f rv row d (rEval_any rv row d) op n k1 k2 s nm es hop hW A c w L L2 hl hc hz
   have gg := fun hop => rEvG_g rv row d (rEval_any rv row d) op n k1 k2 s nm es hop hW A c w L L2 hl hc hz
   clear HF HC HZ IH G
   rcases hkn with h | h | h | h | h | h | h | h | h | h | h | h
   ·exact ga (.inl h)
   ·exact ga (.inr (.inl h))
   ·exact ga (.inr (.inr h))
   ·rcases h with h | h | h | h | h | h
    ·exact gb (.inl h)
    ·exact gb (.inr (.inl h))
    ·exact gb (.inr (.inr h))
    ·exact gc (.inl h)
    ·exact gc (.inr (.inl h))
    ·exact gc (.inr (.inr h))
   ·rcases h with h | h | h | h | h
    ·exact gd (.inl h)
    ·exact gd (.inr (.inl h))
    ·exact gd (.inr (.inr h))
    ·exact ge (.inl h)
    ·exact ge (.inr (.inl h))
   ·exact ge (.inr (.inr h))
   ·exact gf (.inl h)
   ·exact gf (.inr (.inl h))
   ·exact gf (.inr (.inr h))
   ·exact gg (.inl h)
   ·exact gg (.inr (.inl h))
   ·exact gg (.inr (.inr h))
end Go.Proofs.YtdhemhmgenhmaaaGreat
namespace Go.Proofs.YtdhemhmgenhmaaaGreat
open Go.RowKit
theorem rCheck_any (v : Value) (zs : List Int) (d : Nat) (e : Ex) (A : Option Addr) (c : Nat) (w : World) (L L2 : Nat) (h : RdE w L w.heap.size d (.slice A e.args.length c) e.args) (hz : RdI w L2 w.heap.size v zs) (hd : d ≤ 9223372036854775000) :
  Calls Tryz.prog 10 #[exV e (.slice A e.args.length c), v] w fun e' w' => e' = .returned (resV (chkT zs d e)) ∧ Below w.heap.size w w' := by
 have b1 := bel_mk w (.cells (exA e (.slice A e.args.length c)) 26)
 have o1 := Own.new w 26 (exA e (.slice A e.args.length c))
 unfold exA at b1 o1
 have hdep := rDep_any d e (.slice A e.args.length c) _ L (h.step b1 (Nat.le_refl _)) hd
 unfold exV at *
 have HD := Lib.hid hdep
 have HB := Lib.hid b1
 have HO := Lib.hid o1
 have HK := Lib.hid (fun (W : World) (hb : Below w.heap.size w W) => rChk_any v zs d e (.slice A e.args.length c) W L L2 (h.step hb (Nat.le_refl _)) (hz.step hb (Nat.le_refl _)))
 clear hdep b1 o1 h hz
 unfold chkT
 by_cases hd : 24 < depE d e
 ·have hm : (24 : Int) < ((depE d e : Nat) : Int) := by omega
  rw [if_pos hd]
  unfold resV
  generalize ((depE d e : Nat) : Int) = q at *
  clear hd HK
  go_enter Tryz.func10, Tryz.ntmps10
  go_wp2_with fail
  with_reducible refine HD.out.mono ?_
  rintro e w3 ⟨rfl, hb3⟩
  go_wp2
  go_ret2
  exact ⟨rfl, HB.out.trans (hb3.mono HB.out.size)⟩
 ·have hm : ¬ (24 : Int) < ((depE d e : Nat) : Int) := by omega
  rw [if_neg hd]
  unfold resV exV at *
  generalize ((depE d e : Nat) : Int) = q at *
  generalize kndE zs d e = P at *
  clear hd
  go_enter Tryz.func10, Tryz.ntmps10
  go_wp2_with fail
  with_reducible refine HD.out.mono ?_
  rintro e w3 ⟨rfl, hb3⟩
  have o3 := HO.out.below hb3 HO.out.lt
  have x0 := o3.cell 0
  have x1 := o3.cell 1
  have x2 := o3.cell 2
  have x3 := o3.cell 3
  have x4 := o3.cell 4
  have x5 := o3.cell 5
  have x6 := o3.cell 6
  have HB3 := Lib.hid (HB.out.trans (hb3.mono HB.out.size))
  have hk := HK.out w3 HB3.out
  have HK2 := Lib.hid hk
  clear hb3 o3 hk HK
  go_wp2_with fail
  with_reducible refine HK2.out.mono ?_
  rintro e w4 ⟨rfl, hb4⟩
  go_wp2
  go_ret2
  exact ⟨rfl, HB3.out.trans (hb4.mono HB3.out.size)⟩
end Go.Proofs.YtdhemhmgenhmaaaGreat
namespace Go.Proofs.YtdhemhmgenhmaaaGreat
open Go.ChangeShapes Go.WideShapes Go.ChangeAt Go.RowKit Go.Joins Go.Deep
theorem maxLen_leX : maxLen ≤ 9223372036854775807 := by unfold maxLen; omega
section
variable {H : Type} {enc : TypeId × Value → H} {W : World} {base : Nat}
theorem open_intsX {fuel : Nat} {cs : List Value} {d : DataW H} {p : List MemPlace} (hf : DataW.trod enc Tryz.prog W 0 (fun _ => true) true fuel 28 cs = some (d, p)) :
  ∃ (v : Value) (zs : List Int), cs = [v] ∧ RdI W 0 W.heap.size v zs ∧ zs.length ≤ Rows.uptoBulk d := by
 rcases open_slice Tryz.underlying28 hf with ⟨hcs, _⟩ | ⟨a, len, cap, m, n, D, Pl, hcs, _, hl, hm, hmm, hxx, hx⟩
 ·subst hcs
  exact ⟨_, [], rfl, ⟨none, 0, rfl, by simp, by simp⟩, by simp⟩
 ·subst hcs
  rw [if_pos rfl] at hmm
  subst hmm
  have hml := maxLen_leX
  have each : ∀ i, i < len → ∃ q : Int, W.cell? (a.add i) = some (.int .i64 q) := by
   intro i hi
   obtain ⟨cs', hc, ht⟩ := hx i (by omega)
   rw [cellsIntX, Nat.mul_one] at hc
   obtain ⟨_, hcl, hat⟩ := World.cells?_some hc
   match cs', hcl with
   | [v0], _ =>
    have e0 := hat 0 (by omega)
    obtain ⟨x, f0, _⟩ := DataW.trod_int Tryz.underlying3 ht
    simp at f0
    subst f0
    exact ⟨x, by simpa [show (a.add i).add 0 = a.add i by unfold Addr.add; simp] using e0⟩
  obtain ⟨q, hq⟩ := choose_lt each
  have hd : d = .slice ((List.range len).map D) ((List.range (m - len)).map fun j => D (len + j)) := congrArg Prod.fst hxx
  refine ⟨_, (List.range len).map q, rfl, ⟨some a, _, by rw [List.length_map, List.length_range], by rw [List.length_map, List.length_range]; omega, fun k p hk => ?_⟩, ?_⟩
  ·obtain ⟨hk1, hk2⟩ := List.getElem?_eq_some_iff.1 hk
   simp at hk1 hk2
   subst hk2
   have g0 := hq k hk1
   have hb := cell_lt g0
   rw [add_block] at hb
   exact ⟨a, rfl, Nat.zero_le _, hb, g0⟩
  ·rw [hd, List.length_map]
   have := bulk_lenX D (List.range len)
   show _ ≤ (Rows.uptoBulkAll _ + Rows.uptoBulkAll _ + 1)
   omega
theorem open_intsU {v : Value} {d : DataW H} {p : List MemPlace} (hv : Value.okWide Tryz.prog W .any base 28 v) (h : DataW.Trod enc Tryz.prog W 0 (fun _ => true) true 28 v d p) :
  ∃ zs : List Int, RdI W 0 W.heap.size v zs ∧ zs.length ≤ Rows.uptoBulk d := by
 obtain ⟨a0, len0, cap0, rfl⟩ := okWide_slice Tryz.underlying28 hv
 obtain ⟨fuel, hf⟩ := h
 obtain ⟨v, zs, e, h1, h2⟩ := open_intsX hf
 injection e with e _
 subst e
 exact ⟨zs, h1, h2⟩
end
end Go.Proofs.YtdhemhmgenhmaaaGreat
