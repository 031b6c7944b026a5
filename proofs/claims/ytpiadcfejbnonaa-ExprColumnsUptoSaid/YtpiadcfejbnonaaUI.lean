import Derived.Test.YtpiadcfejbnonaaUE
import Derived.Test.YtpiadcfejbnonaaQJb
import Derived.WalkKit
import Derived.WalkSpells
import Derived.WalkLawsBesides
import Derived.Deep.QuietTactic
import Derived.BigQuiet
import Derived.Handy
import Derived.Lib.Hide
/-
  Substitute, by the reference: a column below 0. Conditions: lengths, a bounded depth.
-/
namespace Go.Proofs.Ytpiadcfejbnonaa
set_option linter.unusedVariables false
set_option linter.unusedSimpArgs false
set_option maxRecDepth 100000
open Go.RowKit

set_option maxRecDepth 100000 in
set_option maxHeartbeats 12800000 in
theorem rSub_low (Al : Option Addr) (cl : Nat) (ls : List Ex) (dl d : Nat) (w : World) (IH0 : ∀ (e : Ex) (u : Value) (W : World) (L : Nat), Below w.heap.size w W → RdE W L W.heap.size d u e.args → Calls Try.prog 22 #[exV e u, .slice Al ls.length cl] W (RetX W (d + dl) (sbY ls dl d e)))
    (n k1 k2 : Int) (s nm : ByteArray) (es : List Ex) (A : Option Addr) (c : Nat) (L : Nat) (hl : es.length ≤ 1099511627776) (hc : ∀ (k : Nat) (e : Ex), es[k]? = some e → ∃ (ad : Addr) (u : Value), A = some ad ∧ L ≤ ad.block ∧ ad.block < w.heap.size ∧ ExC w (ad.add (k * 7)) e u ∧ RdE w L w.heap.size d u e.args) (hwf : wfE 2 n k1 k2 s nm es.length = true) (hn : ¬ (0 ≤ n)) :
    Calls Try.prog 22 #[.agg #[.int .i64 2, .int .i64 n, .int .i64 k1, .int .i64 k2, .string s, .string nm, .slice A es.length c], .slice Al ls.length cl] w (RetX w (d + dl + 1) ⟨2, n, (k1, k2, s), nm, es.map (sbY ls dl d)⟩) := by
  have IH := Lib.hid IH0
  have HC := Lib.hid hc
  clear hc IH0
  have HE1 := Lib.hid (show Own ((w.alloc (.cells #[.int .i64 2, .int .i64 n, .int .i64 k1, .int .i64 k2, .string s, .string nm, .slice A es.length c] 26)).alloc (.cells #[.int .i64 0, .int .i64 0, .int .i64 0, .int .i64 0, .string ⟨#[]⟩, .string ⟨#[]⟩, .slice none 0 0] 26)) w.heap.size 26 #[.int .i64 2, .int .i64 n, .int .i64 k1, .int .i64 k2, .string s, .string nm, .slice A es.length c] from (Own.new w _ _).alloc _)
  have HO1 := Lib.hid (show Own ((w.alloc (.cells #[.int .i64 2, .int .i64 n, .int .i64 k1, .int .i64 k2, .string s, .string nm, .slice A es.length c] 26)).alloc (.cells #[.int .i64 0, .int .i64 0, .int .i64 0, .int .i64 0, .string ⟨#[]⟩, .string ⟨#[]⟩, .slice none 0 0] 26)) (w.heap.size + 1) 26 #[.int .i64 0, .int .i64 0, .int .i64 0, .int .i64 0, .string ⟨#[]⟩, .string ⟨#[]⟩, .slice none 0 0] from Va.own_two _)
  have HB1 := Lib.hid (show Below w.heap.size w ((w.alloc (.cells #[.int .i64 2, .int .i64 n, .int .i64 k1, .int .i64 k2, .string s, .string nm, .slice A es.length c] 26)).alloc (.cells #[.int .i64 0, .int .i64 0, .int .i64 0, .int .i64 0, .string ⟨#[]⟩, .string ⟨#[]⟩, .slice none 0 0] 26)) from (bel_mk w _).trans ((bel_mk _ _).mono (by simp)))
  have HWT := Lib.hid (fun W => rFormed_any 2 n k1 k2 s nm A es.length c W hl)
  rw [hwf] at HWT
  clear hwf
  go_enter Try.func22, Try.ntmps22
  go_wp2_with fail
  with_reducible refine (HWT.out _).mono ?_
  rintro e w2 ⟨rfl, hb2⟩
  have HE2 := Lib.hid (HE1.out.below hb2 HE1.out.lt)
  have HO2 := Lib.hid (HO1.out.below hb2 HO1.out.lt)
  have HB2 := Lib.hid (HB1.out.trans (hb2.mono HB1.out.size))
  have hzg : w.heap.size + 2 ≤ w2.heap.size := HO2.out.lt
  have e0 := HE2.out.cell 0
  have e1 := HE2.out.cell 1
  have e2 := HE2.out.cell 2
  have e3 := HE2.out.cell 3
  have e4 := HE2.out.cell 4
  have e5 := HE2.out.cell 5
  have e6 := HE2.out.cell 6
  clear hb2 HE1 HO1 HB1 HWT
  have HE0 := Lib.hid (show Own (w2.alloc (.cells #[.int .i64 2, .int .i64 n, .int .i64 k1, .int .i64 k2, .string s, .string nm, .slice none 0 0] 26)) w.heap.size 26 #[.int .i64 2, .int .i64 n, .int .i64 k1, .int .i64 k2, .string s, .string nm, .slice A es.length c] from HE2.out.alloc _)
  have HO0 := Lib.hid (show Own (w2.alloc (.cells #[.int .i64 2, .int .i64 n, .int .i64 k1, .int .i64 k2, .string s, .string nm, .slice none 0 0] 26)) (w.heap.size + 1) 26 #[.int .i64 0, .int .i64 0, .int .i64 0, .int .i64 0, .string ⟨#[]⟩, .string ⟨#[]⟩, .slice none 0 0] from HO2.out.alloc _)
  have HU0 := Lib.hid (show Own (w2.alloc (.cells #[.int .i64 2, .int .i64 n, .int .i64 k1, .int .i64 k2, .string s, .string nm, .slice none 0 0] 26)) (w2.heap.size) 26 #[.int .i64 2, .int .i64 n, .int .i64 k1, .int .i64 k2, .string s, .string nm, .slice none 0 0] from by have h := Own.new w2 26 #[.int .i64 2, .int .i64 n, .int .i64 k1, .int .i64 k2, .string s, .string nm, .slice none 0 0]; (try simp only [World.size_alloc] at h); exact h)
  have HB0 := Lib.hid (show Below w.heap.size w (w2.alloc (.cells #[.int .i64 2, .int .i64 n, .int .i64 k1, .int .i64 k2, .string s, .string nm, .slice none 0 0] 26)) from HB2.out.trans ((bel_mk _ _).mono HB2.out.size))
  have HR0 := Lib.hid (show (w2.alloc (.cells #[.int .i64 2, .int .i64 n, .int .i64 k1, .int .i64 k2, .string s, .string nm, .slice none 0 0] 26)).ownsRow (w2.heap.size + 1) 26 7 (.slice none 0 0) ([] : List ExU).length (flatE []) from World.ownsRow_nil _ _ _ 7)
  clear HE2 HO2 HB2
  go_wp2_with fail
  clear e0 e1 e2 e3 e4 e5 e6
  go_loopw [6] (fun i wr => ∃ j : Nat, j ≤ es.length ∧ i = .int .i64 j ∧ Hid (∃ (v : Value) (ps : List ExU), ps.length = j ∧ ps.map (·.1) = (es.take j).map (sbY ls dl d) ∧ Own wr (w2.heap.size) 26 #[.int .i64 2, .int .i64 n, .int .i64 k1, .int .i64 k2, .string s, .string nm, v] ∧ wr.ownsRow (w2.heap.size + 1) 26 7 v ps.length (flatE ps) ∧ KidsX wr (w2.heap.size + 1) v (d + dl) ps) ∧ Hid (Own wr w.heap.size 26 #[.int .i64 2, .int .i64 n, .int .i64 k1, .int .i64 k2, .string s, .string nm, .slice A es.length c]) ∧ Hid (Own wr (w.heap.size + 1) 26 #[.int .i64 0, .int .i64 0, .int .i64 0, .int .i64 0, .string ⟨#[]⟩, .string ⟨#[]⟩, .slice none 0 0]) ∧ Below w.heap.size w wr) (fun i _ => es.length - (intOf i).toNat)
  case atStart => exact ⟨0, Nat.zero_le _, rfl, Lib.hid ⟨.slice none 0 0, [], rfl, rfl, HU0.out, HR0.out, fun p hp => by simp at hp⟩, HE0, HO0, HB0.out⟩
  case round =>
    clear HE0 HO0 HU0 HB0 HR0
    obtain ⟨j, hj, rfl, HQ, HE, HO, hbr⟩ := hrel
    have hbz := hbr.size
    obtain ⟨v, ps, hps, hpm, hU, hRow, hKid⟩ := HQ.out
    subst hps
    obtain ⟨Av, cv, rfl⟩ := ownX_shape hRow
    have hu6 := hU.cell 6
    have he6 := HE.out.cell 6
    by_cases hlt : ps.length < es.length
    · have hji : (ps.length : Int) < es.length := by omega
      obtain ⟨ad, x, rfl, _, hab, hxc, hxr⟩ := HC.out ps.length _ (List.getElem?_eq_getElem hlt)
      have htk : (es.take (ps.length + 1)).map (sbY ls dl d) = (es.take ps.length).map (sbY ls dl d) ++ [sbY ls dl d es[ps.length]] := by rw [List.take_add_one, List.getElem?_eq_getElem hlt, List.map_append]; rfl
      generalize es[ps.length] = y at *
      obtain ⟨A3, c3, rfl, hl3⟩ := hxr.slice
      obtain ⟨x0, x1, x2, x3, x4, x5, x6⟩ := hxc.below hbr (by rw [add_blk]; exact hab)
      have HCL := Lib.hid (fun (W : World) (hb : Below w.heap.size w W) => IH.out y (.slice A3 y.args.length c3) W L hb (hxr.step hb (Nat.le_refl _)))
      rw [← hpm] at htk
      have HTK := Lib.hid htk
      have HU := Lib.hid hU
      have HRow := Lib.hid hRow
      have HKid := Lib.hid hKid
      have HBD := Lib.hid (show Below w.heap.size w wr.drew from hbr.drew)
      have HUD := Lib.hid (show Own wr.drew (w2.heap.size) 26 #[.int .i64 2, .int .i64 n, .int .i64 k1, .int .i64 k2, .string s, .string nm, .slice Av ps.length cv] from hU)
      have HED := Lib.hid (show Own wr.drew w.heap.size 26 #[.int .i64 2, .int .i64 n, .int .i64 k1, .int .i64 k2, .string s, .string nm, .slice (some ad) es.length c] from HE.out)
      have HOD := Lib.hid (show Own wr.drew (w.heap.size + 1) 26 #[.int .i64 0, .int .i64 0, .int .i64 0, .int .i64 0, .string ⟨#[]⟩, .string ⟨#[]⟩, .slice none 0 0] from HO.out)
      have HRD := Lib.hid (show wr.drew.ownsRow (w2.heap.size + 1) 26 7 (.slice Av ps.length cv) ps.length (flatE ps) from own_below hRow (Below.refl _ _).drew)
      have HKD := Lib.hid (show KidsX wr.drew (w2.heap.size + 1) (.slice Av ps.length cv) (d + dl) ps from hKid.below (Below.refl _ _).drew)
      have hz3 : w2.heap.size + 1 ≤ wr.drew.heap.size := hU.lt
      unfold exV at HCL
      generalize hrr : sbY ls dl d y = r at *
      obtain ⟨r0, r1, ⟨r2, r3, r4⟩, r5, r6⟩ := r
      have HCL := Lib.hid (show ∀ (W : World), Below w.heap.size w W → Calls Try.prog 22 #[.agg #[.int .i64 y.op, .int .i64 y.n, .int .i64 y.v.1, .int .i64 y.v.2.1, .string y.v.2.2, .string y.nm, .slice A3 y.args.length c3], .slice Al ls.length cl] W fun e w' => ∃ A4 c4, e = .returned (.agg #[.int .i64 r0, .int .i64 r1, .int .i64 r2, .int .i64 r3, .string r4, .string r5, .slice A4 r6.length c4]) ∧ RdE w' W.heap.size w'.heap.size (d + dl) (.slice A4 r6.length c4) r6 ∧ Below W.heap.size W w' from fun W hb => (HCL.out W hb).mono fun e w' h => by
        obtain ⟨u4, h1, h2, h3⟩ := h
        obtain ⟨A4, c4, rfl, _⟩ := h2.slice
        exact ⟨A4, c4, h1, h2, h3⟩)
      clear hxc hxr htk hrr hU hRow hKid hpm HQ HE HO
      go_wp2_with fail
      go_region_law (first
        | (go_simp; go_at_call 22; with_reducible refine (HCL.out _ HBD.out).mono ?_; rintro e w4 ⟨A4, c4, rfl, hr4, hb4⟩; have q6 := (HUD.out.below hb4 HUD.out.lt).cell 6; have HR4 := Lib.hid hr4; have HB4 := Lib.hid hb4; have HZ4 := Lib.hid (Nat.le_trans hz3 hb4.size); have hz4 : w2.heap.size < w4.heap.size := (by have := HZ4.out; omega); clear hr4 hb4)
        | (refine step_append_ex _ rfl _ _ rfl (w2.heap.size + 1) (.slice Av ps.length cv) ps rfl (own_below (own_below HRD.out HB4.out) (bel_mk _ _)) w4.heap.size _ (⟨r0, r1, (r2, r3, r4), r5, r6⟩, .slice A4 r6.length c4) ⟨_, _, _, rfl⟩ rfl (lit_ex w4 (⟨r0, r1, (r2, r3, r4), r5, r6⟩, .slice A4 r6.length c4)) (by omega) (by have := HZ4.out; simp only [World.size_alloc]; omega) ?_; intro g6 cap6 w6 hr6 hg6 hv6 hl6; have hU6 := ((HUD.out.below HB4.out HUD.out.lt).alloc (.cells #[.int .i64 r0, .int .i64 r1, .int .i64 r2, .int .i64 r3, .string r4, .string r5, .slice A4 r6.length c4] 26)).grownX hg6 (fun b hb => by have := ownX_ge HRD.out b hb; omega); have c6 := hU6.cell 6; have k6 := hU6.free 6; have HU6 := Lib.hid hU6; have HR6 := Lib.hid hr6; have HG6 := Lib.hid hg6; have HV6 := Lib.hid hv6; clear hU6 hr6 hg6 hv6 hl6))
      all_goals
        have hge : ∀ b, (Value.slice Av ps.length cv).ownBlock = some b → w2.heap.size + 1 ≤ b := fun b hb => ownX_ge HRD.out b hb
        have HGE := Lib.hid hge
        have HE7 := Lib.hid ((((HED.out.below HB4.out HED.out.lt).alloc (.cells #[.int .i64 r0, .int .i64 r1, .int .i64 r2, .int .i64 r3, .string r4, .string r5, .slice A4 r6.length c4] 26)).grownX HG6.out (fun b hb => by have := HGE.out b hb; omega)).far (p := ⟨w2.heap.size, 6, none⟩) (by show w.heap.size ≠ w2.heap.size; omega) (.slice (some ⟨g6, 0, none⟩) (ps.length + 1) cap6))
        have HO7 := Lib.hid ((((HOD.out.below HB4.out HOD.out.lt).alloc (.cells #[.int .i64 r0, .int .i64 r1, .int .i64 r2, .int .i64 r3, .string r4, .string r5, .slice A4 r6.length c4] 26)).grownX HG6.out (fun b hb => by have := HGE.out b hb; omega)).far (p := ⟨w2.heap.size, 6, none⟩) (by show w.heap.size + 1 ≠ w2.heap.size; omega) (.slice (some ⟨g6, 0, none⟩) (ps.length + 1) cap6))
        have HK7 := Lib.hid (((((HKD.out.below HB4.out).snoc (KidsX.one (p := (⟨r0, r1, (r2, r3, r4), r5, r6⟩, .slice A4 r6.length c4)) HR4.out hz3 (ownX_lt HRD.out))).below (bel_mk _ (.cells #[.int .i64 r0, .int .i64 r1, .int .i64 r2, .int .i64 r3, .string r4, .string r5, .slice A4 r6.length c4] 26))).grown (n := ps.length + 1) (c := cap6) HG6.out HV6.out).far (p := ⟨w2.heap.size, 6, none⟩) (by show w2.heap.size < w2.heap.size + 1; omega) (.slice (some ⟨g6, 0, none⟩) (ps.length + 1) cap6))
        have HB7 := Lib.hid ((((HBD.out.trans (HB4.out.mono HBD.out.size)).trans ((bel_mk _ (.cells #[.int .i64 r0, .int .i64 r1, .int .i64 r2, .int .i64 r3, .string r4, .string r5, .slice A4 r6.length c4] 26)).mono (by have := HZ4.out; omega))).grown HG6.out (by have := HZ4.out; simp only [World.size_alloc]; omega) (fun b hb => by have := HGE.out b hb; omega)).setCell (p := ⟨w2.heap.size, 6, none⟩) (by show w.heap.size ≤ w2.heap.size; omega) (.slice (some ⟨g6, 0, none⟩) (ps.length + 1) cap6))
        have HU7 := Lib.hid (HU6.out.store 6 (.slice (some ⟨g6, 0, none⟩) (ps.length + 1) cap6))
        have HR7 := Lib.hid (own_farX HR6.out (p := ⟨w2.heap.size, 6, none⟩) (by show w2.heap.size < w2.heap.size + 1; omega) (.slice (some ⟨g6, 0, none⟩) (ps.length + 1) cap6))
        clear hge hz3 hz4 c6 k6 q6 x0 x1 x2 x3 x4 x5 x6 hu6 he6
        go_wp2
        go_roundw
        case rel => exact ⟨ps.length + 1, by omega, by go_num, Lib.hid ⟨_, ps ++ [(⟨r0, r1, (r2, r3, r4), r5, r6⟩, .slice A4 r6.length c4)], by simp, by rw [HTK.out, List.map_append]; rfl, HU7.out, HR7.out, HK7.out⟩, HE7, HO7, HB7.out⟩
        case measure => simp [intOf]; omega
    · have hji : ¬ (ps.length : Int) < es.length := by omega
      have hje : ps.length = es.length := by omega
      have HT := Lib.hid (show RdE wr (w2.heap.size + 1) wr.heap.size (d + dl + 1) (.slice Av ps.length cv) (es.map (sbY ls dl d)) from by
        have h := rdE_own hRow (by omega) hKid
        rw [hpm, hje, List.take_length] at h
        rw [hje]
        exact h)
      have HO3 := HO
      have HB3 := Lib.hid hbr
      have HUU := Lib.hid hU
      clear hRow hKid hpm HQ hbr hbz hU hu6 hje hlt HC IH
      have e0 := HUU.out.cell 0
      have e1 := HUU.out.cell 1
      have e2 := HUU.out.cell 2
      have e3 := HUU.out.cell 3
      have e4 := HUU.out.cell 4
      have e5 := HUU.out.cell 5
      have e6 := HUU.out.cell 6
      have o0 := HO3.out.cell 0
      have o1 := HO3.out.cell 1
      have o2 := HO3.out.cell 2
      have o3 := HO3.out.cell 3
      have o4 := HO3.out.cell 4
      have o5 := HO3.out.cell 5
      have o6 := HO3.out.cell 6
      have m0 := HO3.out.free 0
      have m1 := HO3.out.free 1
      have m2 := HO3.out.free 2
      have m3 := HO3.out.free 3
      have m4 := HO3.out.free 4
      have m5 := HO3.out.free 5
      have m6 := HO3.out.free 6
      have HX := Lib.hid (((((((HO3.out.store 0 (.int .i64 2)).store 1 (.int .i64 n)).store 2 (.int .i64 k1)).store 3 (.int .i64 k2)).store 4 (.string s)).store 5 (.string nm)).store 6 (.slice Av ps.length cv))
      go_wp2
      (try simp only [Exit.inBlock, Exit.then]); refine bodyPost_ret_by (results_cell_row1 (by rfl) _ _ (w.heap.size + 1) _ (by rfl) (load_ex HX.out)) ?_ ?_; (focus rfl); refine ⟨_, rfl, ?_, ?_⟩
      · simp only [World.size_setCell]
        refine RdE.more (Nat.le_refl _) (show w.heap.size ≤ w2.heap.size + 1 by omega) ?_
        exact (((((((HT.out).far (by show w.heap.size + 1 < _; omega)).far (by show w.heap.size + 1 < _; omega)).far (by show w.heap.size + 1 < _; omega)).far (by show w.heap.size + 1 < _; omega)).far (by show w.heap.size + 1 < _; omega)).far (by show w.heap.size + 1 < _; omega)).far (by show w.heap.size + 1 < _; omega)
      · exact (((((((HB3.out).setCell (by show w.heap.size ≤ w.heap.size + 1; omega) _).setCell (by show w.heap.size ≤ w.heap.size + 1; omega) _).setCell (by show w.heap.size ≤ w.heap.size + 1; omega) _).setCell (by show w.heap.size ≤ w.heap.size + 1; omega) _).setCell (by show w.heap.size ≤ w.heap.size + 1; omega) _).setCell (by show w.heap.size ≤ w.heap.size + 1; omega) _).setCell (by show w.heap.size ≤ w.heap.size + 1; omega) _
end Go.Proofs.Ytpiadcfejbnonaa
