import Derived.Test.YtdhemhmgenhmaaaGreatSPdZc
import Derived.Test.YtdhemhmgenhmaaaGreatSPdZj
import Derived.Test.YtdhemhmgenhmaaaGreatPB
import Derived.WalkKit
import Derived.WalkSpells
import Derived.WalkLawsBesides
import Derived.Deep.QuietTactic
import Derived.BigQuiet
import Derived.Handy
import Derived.Lib.Hide
set_option maxRecDepth 100000
set_option maxHeartbeats 25600000
set_option linter.unusedVariables false
set_option linter.unusedSimpArgs false
/-
  Simplify: what it answers. Conditions: lengths. (Written by mkPdZe.py.)
-/
namespace Go.Proofs.YtdhemhmgenhmaaaGreat
open Go.RowKit
theorem all_take {d : Nat} {es : List Ex} {k : Nat} (h : k < es.length) (b : Bool) : (b && (es.take (k + 1)).all fun a => (simE d a).op == 1) = ((b && (es.take k).all fun a => (simE d a).op == 1) && ((simE d es[k]).op == 1)) := by
 rw [List.take_succ_eq_append_getElem h, List.all_append]
 simp [Bool.and_assoc]
theorem pSim_any : ∀ (d : Nat) (e : Ex) (u : Value) (w : World) (L : Nat), RdE w L w.heap.size d u e.args → Calls Tryz.prog 4 #[exV e u] w (RetX w d (simE d e))
 | 0, _, _, _, _, h => h.elim
 | d + 1, e, u, w, L, h => by
  have IH := Lib.hid (pSim_any d)
  have hfin := fun a ha => RdE.fin h a ha
  obtain ⟨op, n, ⟨k1, k2, s⟩, nm, es⟩ := e
  unfold exV
  dsimp only at h hfin ⊢
  obtain ⟨A, c, rfl, hl, hc⟩ := h
  have HC := Lib.hid hc
  have HFI := Lib.hid (show Ex.Fin (d + 1) ⟨op, n, (k1, k2, s), nm, es⟩ from fun a ha => (hfin a ha) a ha)
  clear hc hfin
  have HE0 := Lib.hid (show Own ((w.alloc (.cells #[.int .i64 op, .int .i64 n, .int .i64 k1, .int .i64 k2, .string s, .string nm, .slice A es.length c] 26)).alloc (.cells #[.int .i64 0, .int .i64 0, .int .i64 0, .int .i64 0, .string ⟨#[]⟩, .string ⟨#[]⟩, .slice none 0 0] 26)) w.heap.size 26 #[.int .i64 op, .int .i64 n, .int .i64 k1, .int .i64 k2, .string s, .string nm, .slice A es.length c] from (Own.new w _ _).alloc _)
  have HZ0 := Lib.hid (show Own ((w.alloc (.cells #[.int .i64 op, .int .i64 n, .int .i64 k1, .int .i64 k2, .string s, .string nm, .slice A es.length c] 26)).alloc (.cells #[.int .i64 0, .int .i64 0, .int .i64 0, .int .i64 0, .string ⟨#[]⟩, .string ⟨#[]⟩, .slice none 0 0] 26)) (w.heap.size + 1) 26 #[.int .i64 0, .int .i64 0, .int .i64 0, .int .i64 0, .string ⟨#[]⟩, .string ⟨#[]⟩, .slice none 0 0] from Va.own_two _)
  have HB0 := Lib.hid (show Below w.heap.size w ((w.alloc (.cells #[.int .i64 op, .int .i64 n, .int .i64 k1, .int .i64 k2, .string s, .string nm, .slice A es.length c] 26)).alloc (.cells #[.int .i64 0, .int .i64 0, .int .i64 0, .int .i64 0, .string ⟨#[]⟩, .string ⟨#[]⟩, .slice none 0 0] 26)) from (bel_mk w _).trans ((bel_mk _ _).mono (by simp)))
  have HW := Lib.hid (fun W => pWfP_any ⟨op, n, (k1, k2, s), nm, es⟩ A c hl W)
  have e0 := HE0.out.cell 0
  have e1 := HE0.out.cell 1
  have e2 := HE0.out.cell 2
  have e3 := HE0.out.cell 3
  have e4 := HE0.out.cell 4
  have e5 := HE0.out.cell 5
  have e6 := HE0.out.cell 6
  unfold exV at HW
  dsimp only at HW
  go_enter Tryz.func4, Tryz.ntmps4
  go_wp2_with fail
  generalize ((w.alloc (.cells #[.int .i64 op, .int .i64 n, .int .i64 k1, .int .i64 k2, .string s, .string nm, .slice A es.length c] 26)).alloc (.cells #[.int .i64 0, .int .i64 0, .int .i64 0, .int .i64 0, .string ⟨#[]⟩, .string ⟨#[]⟩, .slice none 0 0] 26)) = V0 at *
  with_reducible refine (HW.out _).mono ?_
  rintro e w1 ⟨rfl, hb1⟩
  have HE1 := Lib.hid (HE0.out.below hb1 HE0.out.lt)
  have HZ1 := Lib.hid (HZ0.out.below hb1 HZ0.out.lt)
  have HB1 := Lib.hid (HB0.out.trans (hb1.mono HB0.out.size))
  clear hb1 HE0 HZ0 HB0 HW e0 e1 e2 e3 e4 e5 e6
  clear V0
  cases hwf : wfX ⟨op, n, (k1, k2, s), nm, es⟩
  ·have HS := Lib.hid (show simE (d + 1) ⟨op, n, (k1, k2, s), nm, es⟩ = conX nullP by show (if _ then _ else _) = _; rw [if_neg (by rw [hwf]; simp)])
   generalize simE (d + 1) ⟨op, n, (k1, k2, s), nm, es⟩ = R at *
   clear hwf
   go_wp2_with fail
   with_reducible refine (pNull_any _).mono ?_
   rintro e w2 ⟨rfl, hb2⟩
   have HZ2 := Lib.hid (HZ1.out.below hb2 HZ1.out.lt)
   have HB2 := Lib.hid (HB1.out.trans (hb2.mono HB1.out.size))
   clear hb2
   have HK := Lib.hid (fun W => pCon_any 0 0 ⟨#[]⟩ W)
   unfold exV conX at HK
   dsimp only at HK
   unfold valV
   dsimp only
   go_wp2_with fail
   with_reducible refine (HK.out _).mono ?_
   rintro e w3 ⟨rfl, hb3⟩
   have HZ3 := Lib.hid (HZ2.out.below hb3 HZ2.out.lt)
   have HB3 := Lib.hid (HB2.out.trans (hb3.mono HB2.out.size))
   clear hb3 HZ2 HB2 HZ1 HE1 HB1 HK
   have zz := HZ3.out
   have bb := HB3.out
   have z0 := zz.cell 0
   have z1 := zz.cell 1
   have z2 := zz.cell 2
   have z3 := zz.cell 3
   have z4 := zz.cell 4
   have z5 := zz.cell 5
   have z6 := zz.cell 6
   have m0 := zz.free 0
   have m1 := zz.free 1
   have m2 := zz.free 2
   have m3 := zz.free 3
   have m4 := zz.free 4
   have m5 := zz.free 5
   have m6 := zz.free 6
   have HX := Lib.hid (((((((zz.store 0 (.int .i64 1)).store 1 (.int .i64 0)).store 2 (.int .i64 0)).store 3 (.int .i64 0)).store 4 (.string ⟨#[]⟩)).store 5 (.string ⟨#[]⟩)).store 6 (.slice none 0 0))
   have HF := Lib.hid (((((((bb.sc (w.heap.size + 1) 0 (.int .i64 1)).sc (w.heap.size + 1) 1 (.int .i64 0)).sc (w.heap.size + 1) 2 (.int .i64 0)).sc (w.heap.size + 1) 3 (.int .i64 0)).sc (w.heap.size + 1) 4 (.string ⟨#[]⟩)).sc (w.heap.size + 1) 5 (.string ⟨#[]⟩)).sc (w.heap.size + 1) 6 (.slice none 0 0))
   clear zz bb
   go_wp2
   (try simp only [Exit.inBlock, Exit.then]); refine bodyPost_ret_by (results_cell_row1 (by rfl) _ _ (w.heap.size + 1) _ (by rfl) (load_ex HX.out)) ?_ ?_; (focus rfl); refine ⟨.slice none 0 0, by rw [HS.out]; rfl, ?_, HF.out⟩
   rw [HS.out]
   exact ⟨none, 0, rfl, by simp [conX], fun k e hk => by simp [conX] at hk⟩
  ·have HWF := Lib.hid hwf
   clear hwf
   have hmk := made_rowE w1 es.length hl
   have HE2 := Lib.hid (HE1.out.alloc (.cells (rowE [] es.length) 26))
   have HZ2 := Lib.hid (HZ1.out.alloc (.cells (rowE [] es.length) 26))
   have HR2 := Lib.hid (Own.new w1 26 (rowE [] es.length))
   have HB2 := Lib.hid (HB1.out.trans ((bel_mk w1 (.cells (rowE [] es.length) 26)).mono HB1.out.size))
   have d6 := HE1.out.cell 6
   have f6 := HE2.out.cell 6
   have f0 := HE2.out.cell 0
   obtain ⟨b0, hb0⟩ : ∃ b0, (op != 2) = b0 := ⟨_, rfl⟩
   have hgZ := HZ1.out.lt
   go_wp2_with fail
   clear hmk d6 f6 f0 HE1 HZ1 HB1
   generalize hV : w1.alloc (.cells (rowE [] es.length) 26) = V2 at *
   generalize w1.heap.size = g at *
   clear hV w1
   have HB0 := Lib.hid hb0
   clear hb0
   go_loopw [4, 22] (fun ac i wr => ∃ k : Nat, k ≤ es.length ∧ i = .int .i64 k ∧ ac = .bool (b0 && (es.take k).all fun a => (simE d a).op == 1) ∧ Hid (∃ qs : List ExU, qs.length = k ∧ qs.map (·.1) = (es.take k).map (simE d) ∧ Own wr g 26 (rowE qs es.length) ∧ ∀ q ∈ qs, RdE wr (g + 1) wr.heap.size d q.2 q.1.args) ∧ Hid (Own wr w.heap.size 26 #[.int .i64 op, .int .i64 n, .int .i64 k1, .int .i64 k2, .string s, .string nm, .slice A es.length c]) ∧ Hid (Own wr (w.heap.size + 1) 26 #[.int .i64 0, .int .i64 0, .int .i64 0, .int .i64 0, .string ⟨#[]⟩, .string ⟨#[]⟩, .slice none 0 0]) ∧ Below w.heap.size w wr) (fun _ i _ => es.length - (intOf i).toNat)
   case atStart => exact ⟨0, Nat.zero_le _, rfl, by simp, Lib.hid ⟨[], rfl, rfl, HR2.out, by simp⟩, HE2, HZ2, HB2.out⟩
   case round =>
    clear HE2 HZ2 HR2 HB2
    obtain ⟨k, hk, rfl, rfl, HQ, HE, HZ, hbr⟩ := hrel
    have hbz := hbr.size
    by_cases hlt : k < es.length
    ·have hki : (k : Int) < es.length := by omega
     have hal := all_take (d := d) hlt b0
     generalize (b0 && (es.take k).all fun a => (simE d a).op == 1) = B at *
     obtain ⟨ad, x, rfl, _, hab, hxc, hxr⟩ := HC.out k _ (List.getElem?_eq_getElem hlt)
     have htk : (es.take (k + 1)).map (simE d) = (es.take k).map (simE d) ++ [simE d es[k]] := by rw [List.take_add_one, List.getElem?_eq_getElem hlt, List.map_append]; rfl
     generalize es[k] = y at *
     obtain ⟨A3, c3, rfl, hl3⟩ := hxr.slice
     obtain ⟨x0, x1, x2, x3, x4, x5, x6⟩ := hxc.below hbr (by rw [add_blk]; exact hab)
     have b2 := bel_mk wr (.cells (exA y (.slice A3 y.args.length c3)) 26)
     have HB2 := Lib.hid (hbr.trans (b2.mono hbz))
     have HCL := Lib.hid (IH.out y (.slice A3 y.args.length c3) (wr.alloc (.cells (exA y (.slice A3 y.args.length c3)) 26)) L (hxr.step HB2.out (Nat.le_refl _)))
     have HY := Lib.hid (Own.new wr 26 (exA y (.slice A3 y.args.length c3)))
     have HE2 := Lib.hid (HE.out.below b2 HE.out.lt)
     have HZ2 := Lib.hid (HZ.out.below b2 HZ.out.lt)
     have HQ2 := Lib.hid (show ∃ qs : List ExU, qs.length = k ∧ qs.map (·.1) = (es.take k).map (simE d) ∧ Own (wr.alloc (.cells (exA y (.slice A3 y.args.length c3)) 26)) g 26 (rowE qs es.length) ∧ ∀ q ∈ qs, RdE (wr.alloc (.cells (exA y (.slice A3 y.args.length c3)) 26)) (g + 1) (wr.alloc (.cells (exA y (.slice A3 y.args.length c3)) 26)).heap.size d q.2 q.1.args from by
      obtain ⟨qs, h1, h2, h3, h4⟩ := HQ.out
      exact ⟨qs, h1, h2, h3.below b2 h3.lt, fun q hq => (h4 q hq).step b2 (Nat.le_refl _)⟩)
     have HTK := Lib.hid htk
     have HAL := Lib.hid hal
     have y0 := HY.out.cell 0
     have y1 := HY.out.cell 1
     have y2 := HY.out.cell 2
     have y3 := HY.out.cell 3
     have y4 := HY.out.cell 4
     have y5 := HY.out.cell 5
     have y6 := HY.out.cell 6
     clear hxc hxr htk b2 HE HZ HQ hal
     unfold exA exV at *
     generalize simE d y = r at *
     go_wp2_with fail
     with_reducible refine HCL.out.mono ?_
     rintro e w3 ⟨u3, rfl, hr3, hb3⟩
     have HE3 := Lib.hid (HE2.out.below hb3 HE2.out.lt)
     have HZ3 := Lib.hid (HZ2.out.below hb3 HZ2.out.lt)
     have HB3 := Lib.hid (HB2.out.trans (hb3.mono HB2.out.size))
     obtain ⟨qs, g1, g2, g3, g4⟩ := HQ2.out
     have G3 := g3.below hb3 g3.lt
     have hs3 := HB3.out.size
     have HR3 := Lib.hid (hr3.more (Nat.le_refl _) (show g + 1 ≤ _ from g3.lt))
     have HG4 := Lib.hid (fun q hq => (g4 q hq).step hb3 (Nat.le_refl _))
     subst g1
     have HG2 := Lib.hid g2
     have hqk : qs.length < es.length := hlt
     obtain ⟨r0, r1, ⟨r2, r3, r4⟩, r5, r6⟩ := r
     obtain ⟨A4, c4, rfl, hl4⟩ := hr3.slice
     have z0 : w3.cell? ⟨g, qs.length * 7, none⟩ = some (.int .i64 0) := (G3.cell (qs.length * 7)).trans (rowE_next qs es.length hqk 0 (by decide))
     have z1 : w3.cell? ⟨g, qs.length * 7 + 1, none⟩ = some (.int .i64 0) := (G3.cell (qs.length * 7 + 1)).trans (rowE_next qs es.length hqk 1 (by decide))
     have z2 : w3.cell? ⟨g, qs.length * 7 + 2, none⟩ = some (.int .i64 0) := (G3.cell (qs.length * 7 + 2)).trans (rowE_next qs es.length hqk 2 (by decide))
     have z3 : w3.cell? ⟨g, qs.length * 7 + 3, none⟩ = some (.int .i64 0) := (G3.cell (qs.length * 7 + 3)).trans (rowE_next qs es.length hqk 3 (by decide))
     have z4 : w3.cell? ⟨g, qs.length * 7 + 4, none⟩ = some (.string ⟨#[]⟩) := (G3.cell (qs.length * 7 + 4)).trans (rowE_next qs es.length hqk 4 (by decide))
     have z5 : w3.cell? ⟨g, qs.length * 7 + 5, none⟩ = some (.string ⟨#[]⟩) := (G3.cell (qs.length * 7 + 5)).trans (rowE_next qs es.length hqk 5 (by decide))
     have z6 : w3.cell? ⟨g, qs.length * 7 + 6, none⟩ = some (.slice none 0 0) := (G3.cell (qs.length * 7 + 6)).trans (rowE_next qs es.length hqk 6 (by decide))
     have j0 := G3.free (qs.length * 7)
     have j1 := G3.free (qs.length * 7 + 1)
     have j2 := G3.free (qs.length * 7 + 2)
     have j3 := G3.free (qs.length * 7 + 3)
     have j4 := G3.free (qs.length * 7 + 4)
     have j5 := G3.free (qs.length * 7 + 5)
     have j6 := G3.free (qs.length * 7 + 6)
     have HS := Lib.hid (((((((G3.store (qs.length * 7) (.int .i64 r0)).store (qs.length * 7 + 1) (.int .i64 r1)).store (qs.length * 7 + 2) (.int .i64 r2)).store (qs.length * 7 + 3) (.int .i64 r3)).store (qs.length * 7 + 4) (.string r4)).store (qs.length * 7 + 5) (.string r5)).store (qs.length * 7 + 6) (.slice A4 r6.length c4))
     have hset := rowE_set qs es.length (⟨r0, r1, (r2, r3, r4), r5, r6⟩, .slice A4 r6.length c4) hqk
     have HS2 := Lib.hid (hset ▸ HS.out)
     unfold exV
     dsimp only
     clear hr3 hb3 g2 g3 g4 G3 hset HS HQ2 y0 y1 y2 y3 y4 y5 y6 HCL
     cases B
     all_goals
      go_wp2
      go_roundw
      case rel =>
       refine ⟨qs.length + 1, by omega, by go_num, (by have := HAL.out; dsimp only at this; rw [this]; simp), Lib.hid ⟨qs ++ [(⟨r0, r1, (r2, r3, r4), r5, r6⟩, .slice A4 r6.length c4)], by simp, ?_, HS2.out, ?_⟩, Lib.hid ?_, Lib.hid ?_, ?_⟩
       ·rw [HTK.out, List.map_append, HG2.out]; rfl
       ·intro q hq
        simp only [World.size_setCell]
        rcases List.mem_append.1 hq with hq | hq
        ·exact (((((((HG4.out q hq).far (by show g < _; omega)).far (by show g < _; omega)).far (by show g < _; omega)).far (by show g < _; omega)).far (by show g < _; omega)).far (by show g < _; omega)).far (by show g < _; omega)
        ·rw [List.mem_singleton.1 hq]
         exact ((((((HR3.out.far (by show g < _; omega)).far (by show g < _; omega)).far (by show g < _; omega)).far (by show g < _; omega)).far (by show g < _; omega)).far (by show g < _; omega)).far (by show g < _; omega)
       ·exact ((((((HE3.out.far (by show w.heap.size ≠ g; omega) _).far (by show w.heap.size ≠ g; omega) _).far (by show w.heap.size ≠ g; omega) _).far (by show w.heap.size ≠ g; omega) _).far (by show w.heap.size ≠ g; omega) _).far (by show w.heap.size ≠ g; omega) _).far (by show w.heap.size ≠ g; omega) _
       ·exact ((((((HZ3.out.far (by show w.heap.size + 1 ≠ g; omega) _).far (by show w.heap.size + 1 ≠ g; omega) _).far (by show w.heap.size + 1 ≠ g; omega) _).far (by show w.heap.size + 1 ≠ g; omega) _).far (by show w.heap.size + 1 ≠ g; omega) _).far (by show w.heap.size + 1 ≠ g; omega) _).far (by show w.heap.size + 1 ≠ g; omega) _
       ·exact ((((((HB3.out.setCell (by show w.heap.size ≤ g; omega) _).setCell (by show w.heap.size ≤ g; omega) _).setCell (by show w.heap.size ≤ g; omega) _).setCell (by show w.heap.size ≤ g; omega) _).setCell (by show w.heap.size ≤ g; omega) _).setCell (by show w.heap.size ≤ g; omega) _).setCell (by show w.heap.size ≤ g; omega) _
      case measure => simp [intOf]; omega
    ·have hki : ¬ (k : Int) < es.length := by omega
     have hek : k = es.length := by omega
     subst hek
     rw [List.take_length] at *
     obtain ⟨qs, g1, g2, g3, g4⟩ := HQ.out
     have HT := Lib.hid (show RdE wr g wr.heap.size (d + 1) (.slice (some ⟨g, 0, none⟩) es.length es.length) (es.map (simE d)) from by
      rw [← g1] at g3
      rw [rowE_all] at g3
      have h := rdE_row (c := qs.length) g3 (Nat.le_refl _) (by omega) (fun p hp => (g4 p hp).more (Nat.le_refl _) (by omega))
      rw [g2, g1] at h
      exact h)
     have HGW := Lib.hid g3.lt
     clear g2 g3 g4 HQ
     have HA := Lib.hid (show (b0 && es.all fun a => (simE d a).op == 1) = (decide (op ≠ 2) && (es.map (simE d)).all fun a => a.op == 1) by rw [← HB0.out, List.all_map]; congr 1; by_cases h2 : op = 2 <;> simp [h2])
     generalize (b0 && es.all fun a => (simE d a).op == 1) = B at *
     have x6 := HE.out.cell 6
     have f6 := HE.out.free 6
     have b3 := hbr.sc w.heap.size 6 (.slice (some ⟨g, 0, none⟩) es.length es.length)
     have HE3 := Lib.hid (show Own (wr.setCell ⟨w.heap.size, 6, none⟩ (.slice (some ⟨g, 0, none⟩) es.length es.length)) w.heap.size 26 #[.int .i64 op, .int .i64 n, .int .i64 k1, .int .i64 k2, .string s, .string nm, .slice (some ⟨g, 0, none⟩) es.length es.length] from by have h := HE.out.store 6 (.slice (some ⟨g, 0, none⟩) es.length es.length); simp only [List.setIfInBounds_toArray, List.set_cons_zero, List.set_cons_succ] at h; exact h)
     have HZ3 := Lib.hid (HZ.out.far (p := ⟨w.heap.size, 6, none⟩) (by show w.heap.size + 1 ≠ w.heap.size; omega) (.slice (some ⟨g, 0, none⟩) es.length es.length))
     have HT3 := Lib.hid (HT.out.far (p := ⟨w.heap.size, 6, none⟩) (v := .slice (some ⟨g, 0, none⟩) es.length es.length) (by show w.heap.size < g; omega))
     have HB3 := Lib.hid b3
     have HG3 := Lib.hid (show g ≤ wr.heap.size from Nat.le_of_lt HGW.out)
     clear b3 hbr hbz HE HZ HT
     go_upto_region 12 with fail
     clear x6 f6
     rw [← World.size_setCell wr ⟨w.heap.size, 6, none⟩ (.slice (some ⟨g, 0, none⟩) es.length es.length)] at HG3 HT3
     generalize wr.setCell ⟨w.heap.size, 6, none⟩ (.slice (some ⟨g, 0, none⟩) es.length es.length) = W3 at *
     have HWF2 := Lib.hid (show wfX ⟨op, n, (k1, k2, s), nm, es.map (simE d)⟩ = true from (wf_args (e := ⟨op, n, (k1, k2, s), nm, es⟩) (List.length_map ..)).trans HWF.out)
     have HWT := Lib.hid (show ∀ a ∈ es.map (simE d), WfT d a from fun a ha => by
      obtain ⟨b, hb, rfl⟩ := List.mem_map.1 ha
      exact (sim_ok d b (HFI.out b hb)).1)
     have HSE := Lib.hid (show simE (d + 1) ⟨op, n, (k1, k2, s), nm, es⟩ = (if op ≠ 2 ∧ (es.map (simE d)).all (fun a => a.op == 1) = true then conX (evE [] 2 ⟨op, n, (k1, k2, s), nm, es.map (simE d)⟩)
      else if op = 5 ∨ op = 6 then simJ ⟨op, n, (k1, k2, s), nm, es.map (simE d)⟩
      else if op = 4 then simN ⟨op, n, (k1, k2, s), nm, es.map (simE d)⟩
      else if op = 22 then simC ⟨op, n, (k1, k2, s), nm, es.map (simE d)⟩
      else if op = 23 then simF ⟨op, n, (k1, k2, s), nm, es.map (simE d)⟩
      else ⟨op, n, (k1, k2, s), nm, es.map (simE d)⟩) by show (if _ then _ else _) = _; rw [if_pos HWF.out])
     have HLM := Lib.hid (show (es.map (simE d)).length = es.length from List.length_map ..)
     generalize simE (d + 1) ⟨op, n, (k1, k2, s), nm, es⟩ = R at *
     generalize es.map (simE d) = ls at *
     cases B
     ·have hnc : ¬ (op ≠ 2 ∧ ls.all (fun a => a.op == 1) = true) := by have h := HA.out; simp only [Bool.false_eq, Bool.and_eq_false_iff, decide_eq_false_iff_not] at h; rintro ⟨h1, h2⟩; rcases h with h | h <;> simp_all
      have HS0 := Lib.hid (HSE.out.trans (if_neg hnc))
      clear HSE HA hnc
      by_cases ho5 : op = 5
      ·have ho := ho5
       obtain rfl : op = 5 := ho
       have HS := Lib.hid (show R = simJ ⟨5, n, (k1, k2, s), nm, ls⟩ from HS0.out.trans (by simp))
       have HF0 := Lib.hid (pJun5_any n k1 k2 s nm ls d _ W3 g HG3.out HT3.out)
       generalize simJ ⟨5, n, (k1, k2, s), nm, _⟩ = r at *
       unfold exV at HF0
       dsimp only at HF0
       clear HS0
       have e0 := HE3.out.cell 0
       have e1 := HE3.out.cell 1
       have e2 := HE3.out.cell 2
       have e3 := HE3.out.cell 3
       have e4 := HE3.out.cell 4
       have e5 := HE3.out.cell 5
       have e6 := HE3.out.cell 6
       go_wp2_with fail
       with_reducible refine HF0.out.mono ?_
       rintro e w5 ⟨u5, rfl, hr5, hb5⟩
       have HZ5 := Lib.hid (HZ3.out.below hb5 HZ3.out.lt)
       have HB5 := Lib.hid (HB3.out.trans (hb5.mono HB3.out.size))
       obtain ⟨A5, c5, hu5, _⟩ := hr5.slice
       subst hu5
       have HR5 := Lib.hid hr5
       unfold exV
       dsimp only
       clear hb5 hr5 HF0 HZ3 HB3 HE3 HT3 e0 e1 e2 e3 e4 e5 e6
       have zz := HZ5.out
       have bb := HB5.out
       have z0 := zz.cell 0
       have z1 := zz.cell 1
       have z2 := zz.cell 2
       have z3 := zz.cell 3
       have z4 := zz.cell 4
       have z5 := zz.cell 5
       have z6 := zz.cell 6
       have m0 := zz.free 0
       have m1 := zz.free 1
       have m2 := zz.free 2
       have m3 := zz.free 3
       have m4 := zz.free 4
       have m5 := zz.free 5
       have m6 := zz.free 6
       have HX := Lib.hid (((((((zz.store 0 (.int .i64 r.op)).store 1 (.int .i64 r.n)).store 2 (.int .i64 r.v.1)).store 3 (.int .i64 r.v.2.1)).store 4 (.string r.v.2.2)).store 5 (.string r.nm)).store 6 ((.slice A5 r.args.length c5)))
       have HF := Lib.hid (((((((bb.sc (w.heap.size + 1) 0 (.int .i64 r.op)).sc (w.heap.size + 1) 1 (.int .i64 r.n)).sc (w.heap.size + 1) 2 (.int .i64 r.v.1)).sc (w.heap.size + 1) 3 (.int .i64 r.v.2.1)).sc (w.heap.size + 1) 4 (.string r.v.2.2)).sc (w.heap.size + 1) 5 (.string r.nm)).sc (w.heap.size + 1) 6 ((.slice A5 r.args.length c5)))
       clear zz bb
       go_wp2
       (try simp only [Exit.inBlock, Exit.then]); refine bodyPost_ret_by (results_cell_row1 (by rfl) _ _ (w.heap.size + 1) _ (by rfl) (load_ex HX.out)) ?_ ?_; (focus rfl); refine ⟨(.slice A5 r.args.length c5), by rw [HS.out]; rfl, ?_, HF.out⟩
       rw [HS.out]
       have hf := HR5.out
       simp only [World.size_setCell]
       refine RdE.more (Nat.le_refl _) (show w.heap.size ≤ g by omega) ?_
       exact (((((((hf.far (p := ⟨w.heap.size + 1, 0, none⟩) (by show w.heap.size + 1 < g; omega)).far (p := ⟨w.heap.size + 1, 1, none⟩) (by show w.heap.size + 1 < g; omega)).far (p := ⟨w.heap.size + 1, 2, none⟩) (by show w.heap.size + 1 < g; omega)).far (p := ⟨w.heap.size + 1, 3, none⟩) (by show w.heap.size + 1 < g; omega)).far (p := ⟨w.heap.size + 1, 4, none⟩) (by show w.heap.size + 1 < g; omega)).far (p := ⟨w.heap.size + 1, 5, none⟩) (by show w.heap.size + 1 < g; omega)).far (p := ⟨w.heap.size + 1, 6, none⟩) (by show w.heap.size + 1 < g; omega))
      by_cases ho6 : op = 6
      ·have ho := ho6
       obtain rfl : op = 6 := ho
       have HS := Lib.hid (show R = simJ ⟨6, n, (k1, k2, s), nm, ls⟩ from HS0.out.trans (by simp))
       have HF0 := Lib.hid (pJun6_any n k1 k2 s nm ls d _ W3 g HG3.out HT3.out)
       generalize simJ ⟨6, n, (k1, k2, s), nm, _⟩ = r at *
       unfold exV at HF0
       dsimp only at HF0
       clear HS0
       have e0 := HE3.out.cell 0
       have e1 := HE3.out.cell 1
       have e2 := HE3.out.cell 2
       have e3 := HE3.out.cell 3
       have e4 := HE3.out.cell 4
       have e5 := HE3.out.cell 5
       have e6 := HE3.out.cell 6
       go_wp2_with fail
       with_reducible refine HF0.out.mono ?_
       rintro e w5 ⟨u5, rfl, hr5, hb5⟩
       have HZ5 := Lib.hid (HZ3.out.below hb5 HZ3.out.lt)
       have HB5 := Lib.hid (HB3.out.trans (hb5.mono HB3.out.size))
       obtain ⟨A5, c5, hu5, _⟩ := hr5.slice
       subst hu5
       have HR5 := Lib.hid hr5
       unfold exV
       dsimp only
       clear hb5 hr5 HF0 HZ3 HB3 HE3 HT3 e0 e1 e2 e3 e4 e5 e6
       have zz := HZ5.out
       have bb := HB5.out
       have z0 := zz.cell 0
       have z1 := zz.cell 1
       have z2 := zz.cell 2
       have z3 := zz.cell 3
       have z4 := zz.cell 4
       have z5 := zz.cell 5
       have z6 := zz.cell 6
       have m0 := zz.free 0
       have m1 := zz.free 1
       have m2 := zz.free 2
       have m3 := zz.free 3
       have m4 := zz.free 4
       have m5 := zz.free 5
       have m6 := zz.free 6
       have HX := Lib.hid (((((((zz.store 0 (.int .i64 r.op)).store 1 (.int .i64 r.n)).store 2 (.int .i64 r.v.1)).store 3 (.int .i64 r.v.2.1)).store 4 (.string r.v.2.2)).store 5 (.string r.nm)).store 6 ((.slice A5 r.args.length c5)))
       have HF := Lib.hid (((((((bb.sc (w.heap.size + 1) 0 (.int .i64 r.op)).sc (w.heap.size + 1) 1 (.int .i64 r.n)).sc (w.heap.size + 1) 2 (.int .i64 r.v.1)).sc (w.heap.size + 1) 3 (.int .i64 r.v.2.1)).sc (w.heap.size + 1) 4 (.string r.v.2.2)).sc (w.heap.size + 1) 5 (.string r.nm)).sc (w.heap.size + 1) 6 ((.slice A5 r.args.length c5)))
       clear zz bb
       go_wp2
       (try simp only [Exit.inBlock, Exit.then]); refine bodyPost_ret_by (results_cell_row1 (by rfl) _ _ (w.heap.size + 1) _ (by rfl) (load_ex HX.out)) ?_ ?_; (focus rfl); refine ⟨(.slice A5 r.args.length c5), by rw [HS.out]; rfl, ?_, HF.out⟩
       rw [HS.out]
       have hf := HR5.out
       simp only [World.size_setCell]
       refine RdE.more (Nat.le_refl _) (show w.heap.size ≤ g by omega) ?_
       exact (((((((hf.far (p := ⟨w.heap.size + 1, 0, none⟩) (by show w.heap.size + 1 < g; omega)).far (p := ⟨w.heap.size + 1, 1, none⟩) (by show w.heap.size + 1 < g; omega)).far (p := ⟨w.heap.size + 1, 2, none⟩) (by show w.heap.size + 1 < g; omega)).far (p := ⟨w.heap.size + 1, 3, none⟩) (by show w.heap.size + 1 < g; omega)).far (p := ⟨w.heap.size + 1, 4, none⟩) (by show w.heap.size + 1 < g; omega)).far (p := ⟨w.heap.size + 1, 5, none⟩) (by show w.heap.size + 1 < g; omega)).far (p := ⟨w.heap.size + 1, 6, none⟩) (by show w.heap.size + 1 < g; omega))
      by_cases ho23 : op = 23
      ·have ho := ho23
       obtain rfl : op = 23 := ho
       have HS := Lib.hid (show R = simF ⟨23, n, (k1, k2, s), nm, ls⟩ from HS0.out.trans (by simp))
       have HF0 := Lib.hid (pCoa_any 23 n k1 k2 s nm ls d _ W3 g HG3.out HT3.out)
       generalize simF ⟨23, n, (k1, k2, s), nm, _⟩ = r at *
       unfold exV at HF0
       dsimp only at HF0
       clear HS0
       have e0 := HE3.out.cell 0
       have e1 := HE3.out.cell 1
       have e2 := HE3.out.cell 2
       have e3 := HE3.out.cell 3
       have e4 := HE3.out.cell 4
       have e5 := HE3.out.cell 5
       have e6 := HE3.out.cell 6
       go_wp2_with fail
       with_reducible refine HF0.out.mono ?_
       rintro e w5 ⟨u5, rfl, hr5, hb5⟩
       have HZ5 := Lib.hid (HZ3.out.below hb5 HZ3.out.lt)
       have HB5 := Lib.hid (HB3.out.trans (hb5.mono HB3.out.size))
       obtain ⟨A5, c5, hu5, _⟩ := hr5.slice
       subst hu5
       have HR5 := Lib.hid hr5
       unfold exV
       dsimp only
       clear hb5 hr5 HF0 HZ3 HB3 HE3 HT3 e0 e1 e2 e3 e4 e5 e6
       have zz := HZ5.out
       have bb := HB5.out
       have z0 := zz.cell 0
       have z1 := zz.cell 1
       have z2 := zz.cell 2
       have z3 := zz.cell 3
       have z4 := zz.cell 4
       have z5 := zz.cell 5
       have z6 := zz.cell 6
       have m0 := zz.free 0
       have m1 := zz.free 1
       have m2 := zz.free 2
       have m3 := zz.free 3
       have m4 := zz.free 4
       have m5 := zz.free 5
       have m6 := zz.free 6
       have HX := Lib.hid (((((((zz.store 0 (.int .i64 r.op)).store 1 (.int .i64 r.n)).store 2 (.int .i64 r.v.1)).store 3 (.int .i64 r.v.2.1)).store 4 (.string r.v.2.2)).store 5 (.string r.nm)).store 6 ((.slice A5 r.args.length c5)))
       have HF := Lib.hid (((((((bb.sc (w.heap.size + 1) 0 (.int .i64 r.op)).sc (w.heap.size + 1) 1 (.int .i64 r.n)).sc (w.heap.size + 1) 2 (.int .i64 r.v.1)).sc (w.heap.size + 1) 3 (.int .i64 r.v.2.1)).sc (w.heap.size + 1) 4 (.string r.v.2.2)).sc (w.heap.size + 1) 5 (.string r.nm)).sc (w.heap.size + 1) 6 ((.slice A5 r.args.length c5)))
       clear zz bb
       go_wp2
       (try simp only [Exit.inBlock, Exit.then]); refine bodyPost_ret_by (results_cell_row1 (by rfl) _ _ (w.heap.size + 1) _ (by rfl) (load_ex HX.out)) ?_ ?_; (focus rfl); refine ⟨(.slice A5 r.args.length c5), by rw [HS.out]; rfl, ?_, HF.out⟩
       rw [HS.out]
       have hf := HR5.out
       simp only [World.size_setCell]
       refine RdE.more (Nat.le_refl _) (show w.heap.size ≤ g by omega) ?_
       exact (((((((hf.far (p := ⟨w.heap.size + 1, 0, none⟩) (by show w.heap.size + 1 < g; omega)).far (p := ⟨w.heap.size + 1, 1, none⟩) (by show w.heap.size + 1 < g; omega)).far (p := ⟨w.heap.size + 1, 2, none⟩) (by show w.heap.size + 1 < g; omega)).far (p := ⟨w.heap.size + 1, 3, none⟩) (by show w.heap.size + 1 < g; omega)).far (p := ⟨w.heap.size + 1, 4, none⟩) (by show w.heap.size + 1 < g; omega)).far (p := ⟨w.heap.size + 1, 5, none⟩) (by show w.heap.size + 1 < g; omega)).far (p := ⟨w.heap.size + 1, 6, none⟩) (by show w.heap.size + 1 < g; omega))
      by_cases ho4 : op = 4
      ·have ho := ho4
       obtain rfl : op = 4 := ho
       have HS := Lib.hid (show R = simN ⟨4, n, (k1, k2, s), nm, ls⟩ from HS0.out.trans (by simp))
       obtain ⟨a, hla, _⟩ := ev_not (row := []) (d := 0) HWF2.out rfl
       dsimp only at hla
       subst hla
       have HF0 := Lib.hid (pNeg_any 4 n k1 k2 s nm a d _ W3 g HT3.out (fun h4 => by have hwa := HWT.out a (by simp); obtain ⟨i, hi, _⟩ := ev_not (row := []) (d := 0) (wt_wf hwa) h4; exact ⟨i, hi⟩))
       generalize simN ⟨4, n, (k1, k2, s), nm, _⟩ = r at *
       unfold exV at HF0
       dsimp only at HF0
       clear HS0
       have e0 := HE3.out.cell 0
       have e1 := HE3.out.cell 1
       have e2 := HE3.out.cell 2
       have e3 := HE3.out.cell 3
       have e4 := HE3.out.cell 4
       have e5 := HE3.out.cell 5
       have e6 := HE3.out.cell 6
       go_wp2_with fail
       with_reducible refine HF0.out.mono ?_
       rintro e w5 ⟨u5, rfl, hr5, hb5⟩
       have HZ5 := Lib.hid (HZ3.out.below hb5 HZ3.out.lt)
       have HB5 := Lib.hid (HB3.out.trans (hb5.mono HB3.out.size))
       obtain ⟨A5, c5, hu5, _⟩ := hr5.slice
       subst hu5
       have HR5 := Lib.hid hr5
       unfold exV
       dsimp only
       clear hb5 hr5 HF0 HZ3 HB3 HE3 HT3 e0 e1 e2 e3 e4 e5 e6
       have zz := HZ5.out
       have bb := HB5.out
       have z0 := zz.cell 0
       have z1 := zz.cell 1
       have z2 := zz.cell 2
       have z3 := zz.cell 3
       have z4 := zz.cell 4
       have z5 := zz.cell 5
       have z6 := zz.cell 6
       have m0 := zz.free 0
       have m1 := zz.free 1
       have m2 := zz.free 2
       have m3 := zz.free 3
       have m4 := zz.free 4
       have m5 := zz.free 5
       have m6 := zz.free 6
       have HX := Lib.hid (((((((zz.store 0 (.int .i64 r.op)).store 1 (.int .i64 r.n)).store 2 (.int .i64 r.v.1)).store 3 (.int .i64 r.v.2.1)).store 4 (.string r.v.2.2)).store 5 (.string r.nm)).store 6 ((.slice A5 r.args.length c5)))
       have HF := Lib.hid (((((((bb.sc (w.heap.size + 1) 0 (.int .i64 r.op)).sc (w.heap.size + 1) 1 (.int .i64 r.n)).sc (w.heap.size + 1) 2 (.int .i64 r.v.1)).sc (w.heap.size + 1) 3 (.int .i64 r.v.2.1)).sc (w.heap.size + 1) 4 (.string r.v.2.2)).sc (w.heap.size + 1) 5 (.string r.nm)).sc (w.heap.size + 1) 6 ((.slice A5 r.args.length c5)))
       clear zz bb
       go_wp2
       (try simp only [Exit.inBlock, Exit.then]); refine bodyPost_ret_by (results_cell_row1 (by rfl) _ _ (w.heap.size + 1) _ (by rfl) (load_ex HX.out)) ?_ ?_; (focus rfl); refine ⟨(.slice A5 r.args.length c5), by rw [HS.out]; rfl, ?_, HF.out⟩
       rw [HS.out]
       have hf := HR5.out
       simp only [World.size_setCell]
       refine RdE.more (Nat.le_refl _) (show w.heap.size ≤ g by omega) ?_
       exact (((((((hf.far (p := ⟨w.heap.size + 1, 0, none⟩) (by show w.heap.size + 1 < g; omega)).far (p := ⟨w.heap.size + 1, 1, none⟩) (by show w.heap.size + 1 < g; omega)).far (p := ⟨w.heap.size + 1, 2, none⟩) (by show w.heap.size + 1 < g; omega)).far (p := ⟨w.heap.size + 1, 3, none⟩) (by show w.heap.size + 1 < g; omega)).far (p := ⟨w.heap.size + 1, 4, none⟩) (by show w.heap.size + 1 < g; omega)).far (p := ⟨w.heap.size + 1, 5, none⟩) (by show w.heap.size + 1 < g; omega)).far (p := ⟨w.heap.size + 1, 6, none⟩) (by show w.heap.size + 1 < g; omega))
      by_cases ho22 : op = 22
      ·have ho := ho22
       obtain rfl : op = 22 := ho
       have HS := Lib.hid (show R = simC ⟨22, n, (k1, k2, s), nm, ls⟩ from HS0.out.trans (by simp))
       obtain ⟨x, y, z, hla⟩ := wf_three HWF2.out rfl
       dsimp only at hla
       subst hla
       have HF0 := Lib.hid (pCho_any 22 n k1 k2 s nm x y z d _ W3 g HT3.out)
       generalize simC ⟨22, n, (k1, k2, s), nm, _⟩ = r at *
       unfold exV at HF0
       dsimp only at HF0
       clear HS0
       have e0 := HE3.out.cell 0
       have e1 := HE3.out.cell 1
       have e2 := HE3.out.cell 2
       have e3 := HE3.out.cell 3
       have e4 := HE3.out.cell 4
       have e5 := HE3.out.cell 5
       have e6 := HE3.out.cell 6
       go_wp2_with fail
       with_reducible refine HF0.out.mono ?_
       rintro e w5 ⟨u5, rfl, hr5, hb5⟩
       have HZ5 := Lib.hid (HZ3.out.below hb5 HZ3.out.lt)
       have HB5 := Lib.hid (HB3.out.trans (hb5.mono HB3.out.size))
       obtain ⟨A5, c5, hu5, _⟩ := hr5.slice
       subst hu5
       have HR5 := Lib.hid hr5
       unfold exV
       dsimp only
       clear hb5 hr5 HF0 HZ3 HB3 HE3 HT3 e0 e1 e2 e3 e4 e5 e6
       have zz := HZ5.out
       have bb := HB5.out
       have z0 := zz.cell 0
       have z1 := zz.cell 1
       have z2 := zz.cell 2
       have z3 := zz.cell 3
       have z4 := zz.cell 4
       have z5 := zz.cell 5
       have z6 := zz.cell 6
       have m0 := zz.free 0
       have m1 := zz.free 1
       have m2 := zz.free 2
       have m3 := zz.free 3
       have m4 := zz.free 4
       have m5 := zz.free 5
       have m6 := zz.free 6
       have HX := Lib.hid (((((((zz.store 0 (.int .i64 r.op)).store 1 (.int .i64 r.n)).store 2 (.int .i64 r.v.1)).store 3 (.int .i64 r.v.2.1)).store 4 (.string r.v.2.2)).store 5 (.string r.nm)).store 6 ((.slice A5 r.args.length c5)))
       have HF := Lib.hid (((((((bb.sc (w.heap.size + 1) 0 (.int .i64 r.op)).sc (w.heap.size + 1) 1 (.int .i64 r.n)).sc (w.heap.size + 1) 2 (.int .i64 r.v.1)).sc (w.heap.size + 1) 3 (.int .i64 r.v.2.1)).sc (w.heap.size + 1) 4 (.string r.v.2.2)).sc (w.heap.size + 1) 5 (.string r.nm)).sc (w.heap.size + 1) 6 ((.slice A5 r.args.length c5)))
       clear zz bb
       go_wp2
       (try simp only [Exit.inBlock, Exit.then]); refine bodyPost_ret_by (results_cell_row1 (by rfl) _ _ (w.heap.size + 1) _ (by rfl) (load_ex HX.out)) ?_ ?_; (focus rfl); refine ⟨(.slice A5 r.args.length c5), by rw [HS.out]; rfl, ?_, HF.out⟩
       rw [HS.out]
       have hf := HR5.out
       simp only [World.size_setCell]
       refine RdE.more (Nat.le_refl _) (show w.heap.size ≤ g by omega) ?_
       exact (((((((hf.far (p := ⟨w.heap.size + 1, 0, none⟩) (by show w.heap.size + 1 < g; omega)).far (p := ⟨w.heap.size + 1, 1, none⟩) (by show w.heap.size + 1 < g; omega)).far (p := ⟨w.heap.size + 1, 2, none⟩) (by show w.heap.size + 1 < g; omega)).far (p := ⟨w.heap.size + 1, 3, none⟩) (by show w.heap.size + 1 < g; omega)).far (p := ⟨w.heap.size + 1, 4, none⟩) (by show w.heap.size + 1 < g; omega)).far (p := ⟨w.heap.size + 1, 5, none⟩) (by show w.heap.size + 1 < g; omega)).far (p := ⟨w.heap.size + 1, 6, none⟩) (by show w.heap.size + 1 < g; omega))
      have HS := Lib.hid (show R = ⟨op, n, (k1, k2, s), nm, ls⟩ from HS0.out.trans (by rw [if_neg (by omega), if_neg (by omega), if_neg (by omega), if_neg (by omega)]))
      clear HS0
      simp only [← beq_eq_false_iff_ne] at ho4 ho5 ho6 ho22 ho23
      have ef6 := HE3.out.free 6
      have e0 := HE3.out.cell 0
      have e1 := HE3.out.cell 1
      have e2 := HE3.out.cell 2
      have e3 := HE3.out.cell 3
      have e4 := HE3.out.cell 4
      have e5 := HE3.out.cell 5
      have e6 := HE3.out.cell 6
      have zz := HZ3.out
      have bb := HB3.out
      have z0 := zz.cell 0
      have z1 := zz.cell 1
      have z2 := zz.cell 2
      have z3 := zz.cell 3
      have z4 := zz.cell 4
      have z5 := zz.cell 5
      have z6 := zz.cell 6
      have m0 := zz.free 0
      have m1 := zz.free 1
      have m2 := zz.free 2
      have m3 := zz.free 3
      have m4 := zz.free 4
      have m5 := zz.free 5
      have m6 := zz.free 6
      have HX := Lib.hid (((((((zz.store 0 (.int .i64 op)).store 1 (.int .i64 n)).store 2 (.int .i64 k1)).store 3 (.int .i64 k2)).store 4 (.string s)).store 5 (.string nm)).store 6 (.slice (some ⟨g, 0, none⟩) es.length es.length))
      have HF := Lib.hid (((((((bb.sc (w.heap.size + 1) 0 (.int .i64 op)).sc (w.heap.size + 1) 1 (.int .i64 n)).sc (w.heap.size + 1) 2 (.int .i64 k1)).sc (w.heap.size + 1) 3 (.int .i64 k2)).sc (w.heap.size + 1) 4 (.string s)).sc (w.heap.size + 1) 5 (.string nm)).sc (w.heap.size + 1) 6 (.slice (some ⟨g, 0, none⟩) es.length es.length))
      clear zz bb HZ3 HB3 HE3
      go_wp2
      (try simp only [Exit.inBlock, Exit.then]); refine bodyPost_ret_by (results_cell_row1 (by rfl) _ _ (w.heap.size + 1) _ (by rfl) (load_ex HX.out)) ?_ ?_; (focus rfl); refine ⟨_, by rw [HS.out]; rfl, ?_, HF.out⟩
      rw [HS.out]
      have hf := HT3.out
      simp only [World.size_setCell]
      refine RdE.more (Nat.le_refl _) (show w.heap.size ≤ g by omega) ?_
      exact (((((((hf.far (p := ⟨w.heap.size + 1, 0, none⟩) (by show w.heap.size + 1 < g; omega)).far (p := ⟨w.heap.size + 1, 1, none⟩) (by show w.heap.size + 1 < g; omega)).far (p := ⟨w.heap.size + 1, 2, none⟩) (by show w.heap.size + 1 < g; omega)).far (p := ⟨w.heap.size + 1, 3, none⟩) (by show w.heap.size + 1 < g; omega)).far (p := ⟨w.heap.size + 1, 4, none⟩) (by show w.heap.size + 1 < g; omega)).far (p := ⟨w.heap.size + 1, 5, none⟩) (by show w.heap.size + 1 < g; omega)).far (p := ⟨w.heap.size + 1, 6, none⟩) (by show w.heap.size + 1 < g; omega))
     ·have hc2 : op ≠ 2 ∧ ls.all (fun a => a.op == 1) = true := by have h := HA.out; simp only [Bool.true_eq, Bool.and_eq_true, decide_eq_true_eq] at h; exact h
      have HS0 := Lib.hid (HSE.out.trans (if_pos hc2))
      have hev : evE [] (d + 1) ⟨op, n, (k1, k2, s), nm, ls⟩ = evE [] 2 ⟨op, n, (k1, k2, s), nm, ls⟩ := ev_consts [] d (e := ⟨op, n, (k1, k2, s), nm, ls⟩) hc2.1 (fun a ha => by simpa using List.all_eq_true.1 hc2.2 a ha) (fun a ha => wt_wf (HWT.out a ha)) (fun hne => by
       obtain ⟨a, ha⟩ := List.exists_mem_of_ne_nil _ hne
       exact fin_pos (wt_fin (HWT.out a ha)))
      have HEV := Lib.hid (show Calls Tryz.prog 15 #[.agg #[.int .i64 op, .int .i64 n, .int .i64 k1, .int .i64 k2, .string s, .string nm, .slice (some ⟨g, 0, none⟩) es.length es.length], .slice none 0 0] W3 fun e' w' => e' = .returned (valV (evE [] 2 ⟨op, n, (k1, k2, s), nm, ls⟩)) ∧ Below W3.heap.size W3 w' from by
       have h := pEval_any (.slice none 0 0) [] (d + 1) ⟨op, n, (k1, k2, s), nm, ls⟩ (some ⟨g, 0, none⟩) es.length W3 g 0 (by dsimp only; rw [HLM.out]; exact HT3.out) (rdV_nil _ _ _)
       rw [hev] at h
       unfold exV at h
       dsimp only at h
       rw [HLM.out] at h
       exact h)
      generalize evE [] 2 ⟨op, n, (k1, k2, s), nm, ls⟩ = ev at *
      clear hev HA hc2 HSE
      have HS := HS0
      obtain ⟨ev1, ev2, ev3⟩ := ev
      unfold valV at HEV
      dsimp only at HEV
      have e0 := HE3.out.cell 0
      have e1 := HE3.out.cell 1
      have e2 := HE3.out.cell 2
      have e3 := HE3.out.cell 3
      have e4 := HE3.out.cell 4
      have e5 := HE3.out.cell 5
      have e6 := HE3.out.cell 6
      go_wp2_with fail
      with_reducible refine HEV.out.mono ?_
      rintro e w4 ⟨rfl, hb4⟩
      have HZ4 := Lib.hid (HZ3.out.below hb4 HZ3.out.lt)
      have HB4 := Lib.hid (HB3.out.trans (hb4.mono HB3.out.size))
      clear hb4 HEV e0 e1 e2 e3 e4 e5 e6
      have HK := Lib.hid (fun W => pCon_any ev1 ev2 ev3 W)
      unfold exV conX at HK
      dsimp only at HK
      go_wp2_with fail
      with_reducible refine (HK.out _).mono ?_
      rintro e w5 ⟨rfl, hb5⟩
      have HZ5 := Lib.hid (HZ4.out.below hb5 HZ4.out.lt)
      have HB5 := Lib.hid (HB4.out.trans (hb5.mono HB4.out.size))
      clear hb5 HZ4 HB4 HZ3 HB3 HE3 HT3 HK
      have zz := HZ5.out
      have bb := HB5.out
      have z0 := zz.cell 0
      have z1 := zz.cell 1
      have z2 := zz.cell 2
      have z3 := zz.cell 3
      have z4 := zz.cell 4
      have z5 := zz.cell 5
      have z6 := zz.cell 6
      have m0 := zz.free 0
      have m1 := zz.free 1
      have m2 := zz.free 2
      have m3 := zz.free 3
      have m4 := zz.free 4
      have m5 := zz.free 5
      have m6 := zz.free 6
      have HX := Lib.hid (((((((zz.store 0 (.int .i64 1)).store 1 (.int .i64 0)).store 2 (.int .i64 ev1)).store 3 (.int .i64 ev2)).store 4 (.string ev3)).store 5 (.string ⟨#[]⟩)).store 6 (.slice none 0 0))
      have HF := Lib.hid (((((((bb.sc (w.heap.size + 1) 0 (.int .i64 1)).sc (w.heap.size + 1) 1 (.int .i64 0)).sc (w.heap.size + 1) 2 (.int .i64 ev1)).sc (w.heap.size + 1) 3 (.int .i64 ev2)).sc (w.heap.size + 1) 4 (.string ev3)).sc (w.heap.size + 1) 5 (.string ⟨#[]⟩)).sc (w.heap.size + 1) 6 (.slice none 0 0))
      clear zz bb
      go_wp2
      (try simp only [Exit.inBlock, Exit.then]); refine bodyPost_ret_by (results_cell_row1 (by rfl) _ _ (w.heap.size + 1) _ (by rfl) (load_ex HX.out)) ?_ ?_; (focus rfl); refine ⟨.slice none 0 0, by rw [HS.out]; rfl, ?_, HF.out⟩
      rw [HS.out]
      exact ⟨none, 0, rfl, by simp [conX], fun k e hk => by simp [conX] at hk⟩
end Go.Proofs.YtdhemhmgenhmaaaGreat
