import Derived.Test.YteihjneeiojgaaaSExUa
import Derived.Test.YteihjneeiojgaaaMV
import Derived.WalkKit
import Derived.WalkSpells
import Derived.WalkLawsBesides
import Derived.Deep.QuietTactic
import Derived.BigQuiet
import Derived.Handy
import Derived.Lib.Hide
/-
  withArgs over a function that is handed to it: a tree in new memory. Conditions: lengths.
-/
namespace Go.Proofs.Yteihjneeiojgaaa
set_option maxRecDepth 100000
set_option linter.unusedVariables false
set_option linter.unusedSimpArgs false
open Go.RowKit

set_option maxRecDepth 100000 in
set_option maxHeartbeats 12800000 in
theorem withArgs_clone (gf : Ex → Ex) (d d' : Nat) (e : Ex) (u : Value) (w : World) (L : Nat) (h : RdE w L w.heap.size (d + 1) u e.args)
    (hF : ∀ (a : Ex) (ua : Value) (W : World), Below w.heap.size w W → a ∈ e.args → RdE W L W.heap.size d ua a.args → Calls Try.prog 52 #[exV a ua] W (RetX W d' (gf a))) :
    Calls Try.prog 53 #[exV e u, .func (.func 52) #[] #[]] w (RetX w (d' + 1) ⟨e.op, e.n, e.v, e.nm, e.args.map gf⟩) := by
  obtain ⟨op, n, ⟨k1, k2, s⟩, nm, es⟩ := e
  unfold exV
  dsimp only at h hF ⊢
  obtain ⟨A, c, rfl, hl, hc⟩ := h
  have HC := Lib.hid hc
  have HF := Lib.hid hF
  clear hc hF
  have HE0 := Lib.hid (show Own ((w.alloc (.cells #[.int .i64 op, .int .i64 n, .int .i64 k1, .int .i64 k2, .string s, .string nm, .slice A es.length c] 65)).alloc (.cells #[.int .i64 0, .int .i64 0, .int .i64 0, .int .i64 0, .string ⟨#[]⟩, .string ⟨#[]⟩, .slice none 0 0] 65)) w.heap.size 65 #[.int .i64 op, .int .i64 n, .int .i64 k1, .int .i64 k2, .string s, .string nm, .slice A es.length c] from (Own.new w _ _).alloc _)
  have HO0 := Lib.hid (show Own ((w.alloc (.cells #[.int .i64 op, .int .i64 n, .int .i64 k1, .int .i64 k2, .string s, .string nm, .slice A es.length c] 65)).alloc (.cells #[.int .i64 0, .int .i64 0, .int .i64 0, .int .i64 0, .string ⟨#[]⟩, .string ⟨#[]⟩, .slice none 0 0] 65)) (w.heap.size + 1) 65 #[.int .i64 0, .int .i64 0, .int .i64 0, .int .i64 0, .string ⟨#[]⟩, .string ⟨#[]⟩, .slice none 0 0] from Va.own_two _)
  have HB0 := Lib.hid (show Below w.heap.size w ((w.alloc (.cells #[.int .i64 op, .int .i64 n, .int .i64 k1, .int .i64 k2, .string s, .string nm, .slice A es.length c] 65)).alloc (.cells #[.int .i64 0, .int .i64 0, .int .i64 0, .int .i64 0, .string ⟨#[]⟩, .string ⟨#[]⟩, .slice none 0 0] 65)) from (bel_mk w _).trans ((bel_mk _ _).mono (by simp)))
  by_cases hz : es.length = 0
  · obtain rfl := List.eq_nil_of_length_eq_zero hz
    dsimp only [List.length_nil, List.map_nil] at *
    clear hz hl
    go_enter Try.func53, Try.ntmps53
    go_wp2_with fail
    go_loopw [19] (fun i wr => i = .int .i64 0 ∧ Hid (Own wr w.heap.size 65 #[.int .i64 op, .int .i64 n, .int .i64 k1, .int .i64 k2, .string s, .string nm, .slice A 0 c]) ∧ Hid (Own wr (w.heap.size + 1) 65 #[.int .i64 0, .int .i64 0, .int .i64 0, .int .i64 0, .string ⟨#[]⟩, .string ⟨#[]⟩, .slice none 0 0]) ∧ Below w.heap.size w wr) (fun i _ => 0)
    case atStart => exact ⟨rfl, HE0, HO0, HB0.out⟩
    case round =>
      clear HE0 HO0 HB0
      obtain ⟨rfl, HE, HO, hbr⟩ := hrel
      have HT := Lib.hid (show RdE wr (w.heap.size + 1 + 1) wr.heap.size (d' + 1) (.slice none 0 0) [] from ⟨none, 0, rfl, by simp, fun k e hk => by simp at hk⟩)
      have e0 := HE.out.cell 0
      have e1 := HE.out.cell 1
      have e2 := HE.out.cell 2
      have e3 := HE.out.cell 3
      have e4 := HE.out.cell 4
      have e5 := HE.out.cell 5
      have e6 := HE.out.cell 6
      have f6 := HE.out.free 6
      have o0 := HO.out.cell 0
      have o1 := HO.out.cell 1
      have o2 := HO.out.cell 2
      have o3 := HO.out.cell 3
      have o4 := HO.out.cell 4
      have o5 := HO.out.cell 5
      have o6 := HO.out.cell 6
      have m0 := HO.out.free 0
      have m1 := HO.out.free 1
      have m2 := HO.out.free 2
      have m3 := HO.out.free 3
      have m4 := HO.out.free 4
      have m5 := HO.out.free 5
      have m6 := HO.out.free 6
      have HX := Lib.hid ((((((((HO.out.far (p := ⟨w.heap.size, 6, none⟩) (by show w.heap.size + 1 ≠ w.heap.size; omega) (.slice none 0 0)).store 0 (.int .i64 op)).store 1 (.int .i64 n)).store 2 (.int .i64 k1)).store 3 (.int .i64 k2)).store 4 (.string s)).store 5 (.string nm)).store 6 (.slice none 0 0))
      have HBR := Lib.hid hbr
      clear hbr HE HO
      go_wp2
      (try simp only [Exit.inBlock, Exit.then]); refine bodyPost_ret_by (results_cell_row1 (by rfl) _ _ (w.heap.size + 1) _ (by rfl) (load_ex HX.out)) ?_ ?_; (focus rfl); refine ⟨_, rfl, ?_, ?_⟩
      · simp only [World.size_setCell]
        refine RdE.more (Nat.le_refl _) (show w.heap.size ≤ w.heap.size + 1 + 1 by omega) ?_
        exact ((((((((HT.out.far (p := ⟨w.heap.size, 6, none⟩) (by show w.heap.size < _; omega)).far (by show w.heap.size + 1 < _; omega)).far (by show w.heap.size + 1 < _; omega)).far (by show w.heap.size + 1 < _; omega)).far (by show w.heap.size + 1 < _; omega)).far (by show w.heap.size + 1 < _; omega)).far (by show w.heap.size + 1 < _; omega)).far (by show w.heap.size + 1 < _; omega))
      · exact (((((((HBR.out.setCell (p := ⟨w.heap.size, 6, none⟩) (Nat.le_refl _) _).setCell (by show w.heap.size ≤ w.heap.size + 1; omega) _).setCell (by show w.heap.size ≤ w.heap.size + 1; omega) _).setCell (by show w.heap.size ≤ w.heap.size + 1; omega) _).setCell (by show w.heap.size ≤ w.heap.size + 1; omega) _).setCell (by show w.heap.size ≤ w.heap.size + 1; omega) _).setCell (by show w.heap.size ≤ w.heap.size + 1; omega) _).setCell (by show w.heap.size ≤ w.heap.size + 1; omega) _
  · have hgt : (0 : Int) < es.length := by omega
    have hmk := made_rowE ((w.alloc (.cells #[.int .i64 op, .int .i64 n, .int .i64 k1, .int .i64 k2, .string s, .string nm, .slice A es.length c] 65)).alloc (.cells #[.int .i64 0, .int .i64 0, .int .i64 0, .int .i64 0, .string ⟨#[]⟩, .string ⟨#[]⟩, .slice none 0 0] 65)) es.length hl
    simp only [World.size_alloc] at hmk
    have HE1 := Lib.hid (HE0.out.alloc (.cells (rowE [] es.length) 65))
    have HO1 := Lib.hid (HO0.out.alloc (.cells (rowE [] es.length) 65))
    have HR1 := Lib.hid (show Own (((w.alloc (.cells #[.int .i64 op, .int .i64 n, .int .i64 k1, .int .i64 k2, .string s, .string nm, .slice A es.length c] 65)).alloc (.cells #[.int .i64 0, .int .i64 0, .int .i64 0, .int .i64 0, .string ⟨#[]⟩, .string ⟨#[]⟩, .slice none 0 0] 65)).alloc (.cells (rowE [] es.length) 65)) (w.heap.size + 1 + 1) 65 (rowE [] es.length) from by have h := Own.new ((w.alloc (.cells #[.int .i64 op, .int .i64 n, .int .i64 k1, .int .i64 k2, .string s, .string nm, .slice A es.length c] 65)).alloc (.cells #[.int .i64 0, .int .i64 0, .int .i64 0, .int .i64 0, .string ⟨#[]⟩, .string ⟨#[]⟩, .slice none 0 0] 65)) 65 (rowE [] es.length); simp only [World.size_alloc] at h; exact h)
    have HB1 := Lib.hid (HB0.out.trans ((bel_mk ((w.alloc (.cells #[.int .i64 op, .int .i64 n, .int .i64 k1, .int .i64 k2, .string s, .string nm, .slice A es.length c] 65)).alloc (.cells #[.int .i64 0, .int .i64 0, .int .i64 0, .int .i64 0, .string ⟨#[]⟩, .string ⟨#[]⟩, .slice none 0 0] 65)) (.cells (rowE [] es.length) 65)).mono HB0.out.size))
    have d6 := HE0.out.cell 6
    have f6 := HE1.out.cell 6
    clear HE0 HO0 HB0 hz
    go_enter Try.func53, Try.ntmps53
    go_wp2_with fail
    clear hmk d6 f6
    go_loopw [19] (fun i wr => ∃ k : Nat, k ≤ es.length ∧ i = .int .i64 k ∧ Hid (∃ qs : List ExU, qs.length = k ∧ qs.map (·.1) = (es.take k).map gf ∧ Own wr (w.heap.size + 1 + 1) 65 (rowE qs es.length) ∧ ∀ q ∈ qs, RdE wr (w.heap.size + 3) wr.heap.size d' q.2 q.1.args) ∧ Hid (Own wr w.heap.size 65 #[.int .i64 op, .int .i64 n, .int .i64 k1, .int .i64 k2, .string s, .string nm, .slice A es.length c]) ∧ Hid (Own wr (w.heap.size + 1) 65 #[.int .i64 0, .int .i64 0, .int .i64 0, .int .i64 0, .string ⟨#[]⟩, .string ⟨#[]⟩, .slice none 0 0]) ∧ Below w.heap.size w wr) (fun i _ => es.length - (intOf i).toNat)
    case atStart => exact ⟨0, Nat.zero_le _, rfl, Lib.hid ⟨[], rfl, rfl, HR1.out, by simp⟩, HE1, HO1, HB1.out⟩
    case round =>
      clear HE1 HO1 HR1 HB1
      obtain ⟨k, hk, rfl, HQ, HE, HO, hbr⟩ := hrel
      have hbz := hbr.size
      by_cases hlt : k < es.length
      · have hki : (k : Int) < es.length := by omega
        obtain ⟨ad, x, rfl, _, hab, hxc, hxr⟩ := HC.out k _ (List.getElem?_eq_getElem hlt)
        have htk : (es.take (k + 1)).map gf = (es.take k).map gf ++ [gf es[k]] := by rw [List.take_add_one, List.getElem?_eq_getElem hlt, List.map_append]; rfl
        have hmem := List.getElem_mem hlt
        generalize es[k] = y at *
        obtain ⟨A3, c3, rfl, hl3⟩ := hxr.slice
        obtain ⟨x0, x1, x2, x3, x4, x5, x6⟩ := hxc.below hbr (by rw [add_blk]; exact hab)
        have b2 := bel_mk wr (.cells (exA y (.slice A3 y.args.length c3)) 65)
        have HB2 := Lib.hid (hbr.trans (b2.mono hbz))
        have HCL := Lib.hid (HF.out y (.slice A3 y.args.length c3) (wr.alloc (.cells (exA y (.slice A3 y.args.length c3)) 65)) HB2.out hmem (hxr.step HB2.out (Nat.le_refl _)))
        have HY := Lib.hid (Own.new wr 65 (exA y (.slice A3 y.args.length c3)))
        have HE2 := Lib.hid (HE.out.below b2 HE.out.lt)
        have HO2 := Lib.hid (HO.out.below b2 HO.out.lt)
        have HQ2 := Lib.hid (show ∃ qs : List ExU, qs.length = k ∧ qs.map (·.1) = (es.take k).map gf ∧ Own (wr.alloc (.cells (exA y (.slice A3 y.args.length c3)) 65)) (w.heap.size + 1 + 1) 65 (rowE qs es.length) ∧ ∀ q ∈ qs, RdE (wr.alloc (.cells (exA y (.slice A3 y.args.length c3)) 65)) (w.heap.size + 3) (wr.alloc (.cells (exA y (.slice A3 y.args.length c3)) 65)).heap.size d' q.2 q.1.args from by
          obtain ⟨qs, h1, h2, h3, h4⟩ := HQ.out
          exact ⟨qs, h1, h2, h3.below b2 h3.lt, fun q hq => (h4 q hq).step b2 (Nat.le_refl _)⟩)
        have HTK := Lib.hid htk
        have y0 := HY.out.cell 0
        have y1 := HY.out.cell 1
        have y2 := HY.out.cell 2
        have y3 := HY.out.cell 3
        have y4 := HY.out.cell 4
        have y5 := HY.out.cell 5
        have y6 := HY.out.cell 6
        clear hxc hxr htk hmem b2 HE HO HQ
        unfold exA exV at *
        generalize gf y = r at *
        go_wp2_with fail
        with_reducible refine HCL.out.mono ?_
        rintro e w3 ⟨u3, rfl, hr3, hb3⟩
        have HE3 := Lib.hid (HE2.out.below hb3 HE2.out.lt)
        have HO3 := Lib.hid (HO2.out.below hb3 HO2.out.lt)
        have HB3 := Lib.hid (HB2.out.trans (hb3.mono HB2.out.size))
        obtain ⟨qs, g1, g2, g3, g4⟩ := HQ2.out
        have G3 := g3.below hb3 g3.lt
        have hs3 := HB3.out.size
        have HR3 := Lib.hid (hr3.more (Nat.le_refl _) (show w.heap.size + 3 ≤ _ from g3.lt))
        have HG4 := Lib.hid (fun q hq => (g4 q hq).step hb3 (Nat.le_refl _))
        subst g1
        have HG2 := Lib.hid g2
        have hqk : qs.length < es.length := hlt
        obtain ⟨r0, r1, ⟨r2, r3, r4⟩, r5, r6⟩ := r
        obtain ⟨A4, c4, rfl, hl4⟩ := hr3.slice
        have z0 : w3.cell? ⟨w.heap.size + 1 + 1, qs.length * 7, none⟩ = some (.int .i64 0) := (G3.cell (qs.length * 7)).trans (rowE_next qs es.length hqk 0 (by decide))
        have z1 : w3.cell? ⟨w.heap.size + 1 + 1, qs.length * 7 + 1, none⟩ = some (.int .i64 0) := (G3.cell (qs.length * 7 + 1)).trans (rowE_next qs es.length hqk 1 (by decide))
        have z2 : w3.cell? ⟨w.heap.size + 1 + 1, qs.length * 7 + 2, none⟩ = some (.int .i64 0) := (G3.cell (qs.length * 7 + 2)).trans (rowE_next qs es.length hqk 2 (by decide))
        have z3 : w3.cell? ⟨w.heap.size + 1 + 1, qs.length * 7 + 3, none⟩ = some (.int .i64 0) := (G3.cell (qs.length * 7 + 3)).trans (rowE_next qs es.length hqk 3 (by decide))
        have z4 : w3.cell? ⟨w.heap.size + 1 + 1, qs.length * 7 + 4, none⟩ = some (.string ⟨#[]⟩) := (G3.cell (qs.length * 7 + 4)).trans (rowE_next qs es.length hqk 4 (by decide))
        have z5 : w3.cell? ⟨w.heap.size + 1 + 1, qs.length * 7 + 5, none⟩ = some (.string ⟨#[]⟩) := (G3.cell (qs.length * 7 + 5)).trans (rowE_next qs es.length hqk 5 (by decide))
        have z6 : w3.cell? ⟨w.heap.size + 1 + 1, qs.length * 7 + 6, none⟩ = some (.slice none 0 0) := (G3.cell (qs.length * 7 + 6)).trans (rowE_next qs es.length hqk 6 (by decide))
        have j0 := G3.free (qs.length * 7)
        have j1 := G3.free (qs.length * 7 + 1)
        have j2 := G3.free (qs.length * 7 + 2)
        have j3 := G3.free (qs.length * 7 + 3)
        have j4 := G3.free (qs.length * 7 + 4)
        have j5 := G3.free (qs.length * 7 + 5)
        have j6 := G3.free (qs.length * 7 + 6)
        have HS := Lib.hid (((((((G3.store (qs.length * 7) (.int .i64 r0)).store (qs.length * 7 + 1) (.int .i64 r1)).store (qs.length * 7 + 2) (.int .i64 r2)).store (qs.length * 7 + 3) (.int .i64 r3)).store (qs.length * 7 + 4) (.string r4)).store (qs.length * 7 + 5) (.string r5)).store (qs.length * 7 + 6) (.slice A4 r6.length c4))
        have hset := rowE_set qs es.length (⟨r0, r1, (r2, r3, r4), r5, r6⟩, .slice A4 r6.length c4) hqk
        have HS2 := Lib.hid (hset ▸ HS.out)
        unfold exV
        dsimp only
        clear hr3 hb3 g2 g3 g4 G3 hset HS HQ2 y0 y1 y2 y3 y4 y5 y6 HCL
        go_wp2
        go_roundw
        case rel =>
          refine ⟨qs.length + 1, by omega, by go_num, Lib.hid ⟨qs ++ [(⟨r0, r1, (r2, r3, r4), r5, r6⟩, .slice A4 r6.length c4)], by simp, ?_, HS2.out, ?_⟩, Lib.hid ?_, Lib.hid ?_, ?_⟩
          · rw [HTK.out, List.map_append, HG2.out]; rfl
          · intro q hq
            simp only [World.size_setCell]
            rcases List.mem_append.1 hq with hq | hq
            · exact (((((((HG4.out q hq).far (by show w.heap.size + 1 + 1 < _; omega)).far (by show w.heap.size + 1 + 1 < _; omega)).far (by show w.heap.size + 1 + 1 < _; omega)).far (by show w.heap.size + 1 + 1 < _; omega)).far (by show w.heap.size + 1 + 1 < _; omega)).far (by show w.heap.size + 1 + 1 < _; omega)).far (by show w.heap.size + 1 + 1 < _; omega)
            · rw [List.mem_singleton.1 hq]
              exact ((((((HR3.out.far (by show w.heap.size + 1 + 1 < _; omega)).far (by show w.heap.size + 1 + 1 < _; omega)).far (by show w.heap.size + 1 + 1 < _; omega)).far (by show w.heap.size + 1 + 1 < _; omega)).far (by show w.heap.size + 1 + 1 < _; omega)).far (by show w.heap.size + 1 + 1 < _; omega)).far (by show w.heap.size + 1 + 1 < _; omega)
          · exact ((((((HE3.out.far (by show w.heap.size ≠ w.heap.size + 1 + 1; omega) _).far (by show w.heap.size ≠ w.heap.size + 1 + 1; omega) _).far (by show w.heap.size ≠ w.heap.size + 1 + 1; omega) _).far (by show w.heap.size ≠ w.heap.size + 1 + 1; omega) _).far (by show w.heap.size ≠ w.heap.size + 1 + 1; omega) _).far (by show w.heap.size ≠ w.heap.size + 1 + 1; omega) _).far (by show w.heap.size ≠ w.heap.size + 1 + 1; omega) _
          · exact ((((((HO3.out.far (by show w.heap.size + 1 ≠ w.heap.size + 1 + 1; omega) _).far (by show w.heap.size + 1 ≠ w.heap.size + 1 + 1; omega) _).far (by show w.heap.size + 1 ≠ w.heap.size + 1 + 1; omega) _).far (by show w.heap.size + 1 ≠ w.heap.size + 1 + 1; omega) _).far (by show w.heap.size + 1 ≠ w.heap.size + 1 + 1; omega) _).far (by show w.heap.size + 1 ≠ w.heap.size + 1 + 1; omega) _).far (by show w.heap.size + 1 ≠ w.heap.size + 1 + 1; omega) _
          · exact ((((((HB3.out.setCell (by show w.heap.size ≤ w.heap.size + 1 + 1; omega) _).setCell (by show w.heap.size ≤ w.heap.size + 1 + 1; omega) _).setCell (by show w.heap.size ≤ w.heap.size + 1 + 1; omega) _).setCell (by show w.heap.size ≤ w.heap.size + 1 + 1; omega) _).setCell (by show w.heap.size ≤ w.heap.size + 1 + 1; omega) _).setCell (by show w.heap.size ≤ w.heap.size + 1 + 1; omega) _).setCell (by show w.heap.size ≤ w.heap.size + 1 + 1; omega) _
        case measure => simp [intOf]; omega
      · have hki : ¬ (k : Int) < es.length := by omega
        have hek : k = es.length := by omega
        subst hek
        obtain ⟨qs, g1, g2, g3, g4⟩ := HQ.out
        have HT := Lib.hid (show RdE wr (w.heap.size + 1 + 1) wr.heap.size (d' + 1) (.slice (some ⟨w.heap.size + 1 + 1, 0, none⟩) es.length es.length) (es.map gf) from by
          rw [← g1] at g3 g2
          rw [rowE_all] at g3
          have h := rdE_row (c := qs.length) g3 (Nat.le_refl _) (by omega) (fun p hp => (g4 p hp).more (Nat.le_refl _) (by omega))
          rw [g1, List.take_length] at g2
          rw [g2, g1] at h
          exact h)
        clear g2 g3 g4 HQ
        have e0 := HE.out.cell 0
        have e1 := HE.out.cell 1
        have e2 := HE.out.cell 2
        have e3 := HE.out.cell 3
        have e4 := HE.out.cell 4
        have e5 := HE.out.cell 5
        have e6 := HE.out.cell 6
        have f6 := HE.out.free 6
        have o0 := HO.out.cell 0
        have o1 := HO.out.cell 1
        have o2 := HO.out.cell 2
        have o3 := HO.out.cell 3
        have o4 := HO.out.cell 4
        have o5 := HO.out.cell 5
        have o6 := HO.out.cell 6
        have m0 := HO.out.free 0
        have m1 := HO.out.free 1
        have m2 := HO.out.free 2
        have m3 := HO.out.free 3
        have m4 := HO.out.free 4
        have m5 := HO.out.free 5
        have m6 := HO.out.free 6
        have HX := Lib.hid ((((((((HO.out.far (p := ⟨w.heap.size, 6, none⟩) (by show w.heap.size + 1 ≠ w.heap.size; omega) (.slice (some ⟨w.heap.size + 1 + 1, 0, none⟩) es.length es.length)).store 0 (.int .i64 op)).store 1 (.int .i64 n)).store 2 (.int .i64 k1)).store 3 (.int .i64 k2)).store 4 (.string s)).store 5 (.string nm)).store 6 (.slice (some ⟨w.heap.size + 1 + 1, 0, none⟩) es.length es.length))
        have HBR := Lib.hid hbr
        clear hbr HE HO
        go_wp2
        (try simp only [Exit.inBlock, Exit.then]); refine bodyPost_ret_by (results_cell_row1 (by rfl) _ _ (w.heap.size + 1) _ (by rfl) (load_ex HX.out)) ?_ ?_; (focus rfl); refine ⟨_, rfl, ?_, ?_⟩
        · simp only [World.size_setCell]
          refine RdE.more (Nat.le_refl _) (show w.heap.size ≤ w.heap.size + 1 + 1 by omega) ?_
          exact ((((((((HT.out.far (p := ⟨w.heap.size, 6, none⟩) (by show w.heap.size < _; omega)).far (by show w.heap.size + 1 < _; omega)).far (by show w.heap.size + 1 < _; omega)).far (by show w.heap.size + 1 < _; omega)).far (by show w.heap.size + 1 < _; omega)).far (by show w.heap.size + 1 < _; omega)).far (by show w.heap.size + 1 < _; omega)).far (by show w.heap.size + 1 < _; omega))
        · exact (((((((HBR.out.setCell (p := ⟨w.heap.size, 6, none⟩) (Nat.le_refl _) _).setCell (by show w.heap.size ≤ w.heap.size + 1; omega) _).setCell (by show w.heap.size ≤ w.heap.size + 1; omega) _).setCell (by show w.heap.size ≤ w.heap.size + 1; omega) _).setCell (by show w.heap.size ≤ w.heap.size + 1; omega) _).setCell (by show w.heap.size ≤ w.heap.size + 1; omega) _).setCell (by show w.heap.size ≤ w.heap.size + 1; omega) _).setCell (by show w.heap.size ≤ w.heap.size + 1; omega) _
end Go.Proofs.Yteihjneeiojgaaa
