import Derived.Test.YtpiadcfejbnonaaUE
import Derived.Test.YtpiadcfejbnonaaQJb
import Derived.WalkKit
import Derived.WalkSpells
import Derived.WalkLawsBesides
import Derived.Deep.QuietTactic
import Derived.BigQuiet
import Derived.Handy
import Derived.Lib.Hide
import Derived.Test.YtpiadcfejbnonaaUG
import Derived.Test.YtpiadcfejbnonaaUH
import Derived.Test.YtpiadcfejbnonaaUI
import Derived.Test.YtpiadcfejbnonaaUJ
import Derived.Test.YtpiadcfejbnonaaQO
/-
  Substitute, by the reference: a column that is replaced. Conditions: lengths, a bounded depth.
-/
namespace Go.Proofs.Ytpiadcfejbnonaa
set_option linter.unusedVariables false
set_option linter.unusedSimpArgs false
set_option maxRecDepth 100000
open Go.RowKit

set_option maxRecDepth 100000 in
set_option maxHeartbeats 12800000 in
theorem rSub_hit (Al : Option Addr) (cl : Nat) (ls : List Ex) (dl d : Nat) (w : World) (j : Nat) (k1 k2 : Int) (s nm : ByteArray) (es : List Ex) (A : Option Addr) (c : Nat) (L2 : Nat) (hl : es.length ≤ 1099511627776) (hwf : wfE 2 (j : Int) k1 k2 s nm es.length = true)
    (y : Ex) (hj : j < ls.length) (hl2 : RdE w L2 w.heap.size (dl + 1) (.slice Al ls.length cl) ls) (hy : ls[j]? = some y) :
    Calls Try.prog 22 #[.agg #[.int .i64 2, .int .i64 (j : Int), .int .i64 k1, .int .i64 k2, .string s, .string nm, .slice A es.length c], .slice Al ls.length cl] w (RetX w (d + dl + 1) (shX 0 dl y)) := by
  have hji : (j : Int) < ls.length := by omega
  have hj0 : (0 : Int) ≤ (j : Int) := by omega
  obtain ⟨Al2, cl2, hv, _, hcl⟩ := hl2
  injection hv with e1 e2 e3
  subst e1 e3
  clear e2
  obtain ⟨ad, x, rfl, _, hab, hxc, hxr⟩ := hcl j _ hy
  obtain ⟨A3, c3, rfl, hl3⟩ := hxr.slice
  have HXC := Lib.hid hxc
  have HXR := Lib.hid hxr
  clear hxc hxr hcl hy
  have HE1 := Lib.hid (show Own ((w.alloc (.cells #[.int .i64 2, .int .i64 (j : Int), .int .i64 k1, .int .i64 k2, .string s, .string nm, .slice A es.length c] 26)).alloc (.cells #[.int .i64 0, .int .i64 0, .int .i64 0, .int .i64 0, .string ⟨#[]⟩, .string ⟨#[]⟩, .slice none 0 0] 26)) w.heap.size 26 #[.int .i64 2, .int .i64 (j : Int), .int .i64 k1, .int .i64 k2, .string s, .string nm, .slice A es.length c] from (Own.new w _ _).alloc _)
  have HO1 := Lib.hid (show Own ((w.alloc (.cells #[.int .i64 2, .int .i64 (j : Int), .int .i64 k1, .int .i64 k2, .string s, .string nm, .slice A es.length c] 26)).alloc (.cells #[.int .i64 0, .int .i64 0, .int .i64 0, .int .i64 0, .string ⟨#[]⟩, .string ⟨#[]⟩, .slice none 0 0] 26)) (w.heap.size + 1) 26 #[.int .i64 0, .int .i64 0, .int .i64 0, .int .i64 0, .string ⟨#[]⟩, .string ⟨#[]⟩, .slice none 0 0] from Va.own_two _)
  have HB1 := Lib.hid (show Below w.heap.size w ((w.alloc (.cells #[.int .i64 2, .int .i64 (j : Int), .int .i64 k1, .int .i64 k2, .string s, .string nm, .slice A es.length c] 26)).alloc (.cells #[.int .i64 0, .int .i64 0, .int .i64 0, .int .i64 0, .string ⟨#[]⟩, .string ⟨#[]⟩, .slice none 0 0] 26)) from (bel_mk w _).trans ((bel_mk _ _).mono (by simp)))
  have HWT := Lib.hid (fun W => rFormed_any 2 (j : Int) k1 k2 s nm A es.length c W hl)
  rw [hwf] at HWT
  clear hwf
  go_enter Try.func22, Try.ntmps22
  go_wp2_with fail
  with_reducible refine (HWT.out _).mono ?_
  rintro e w2 ⟨rfl, hb2⟩
  have HE2 := Lib.hid (HE1.out.below hb2 HE1.out.lt)
  have HO2 := Lib.hid (HO1.out.below hb2 HO1.out.lt)
  have HB2 := Lib.hid (HB1.out.trans (hb2.mono HB1.out.size))
  have e1 := HE2.out.cell 1
  obtain ⟨x0, x1, x2, x3, x4, x5, x6⟩ := HXC.out.below HB2.out (by rw [add_blk]; exact hab)
  have HC := Lib.hid (rShift_any 0 dl y (.slice A3 y.args.length c3) w2 L2 (HXR.out.step HB2.out (Nat.le_refl _)))
  unfold exV at HC
  clear hb2 HE1 HWT HXC HXR HB1 HO1
  have HO1 := HO2
  have HB1 := HB2
  clear HO2 HB2 HE2
  go_wp2_with fail
  with_reducible refine HC.out.mono ?_
  rintro e w3 ⟨u3, rfl, hr3, hb3⟩
  have hr3 := hr3.up (show dl ≤ d + dl + 1 by omega)
  have HO3 := Lib.hid (HO1.out.below hb3 HO1.out.lt)
  have HB3 := Lib.hid (HB1.out.trans (hb3.mono HB1.out.size))
  have HT := Lib.hid (hr3.more (Nat.le_refl _) (show w.heap.size + 2 ≤ _ from HO1.out.lt))
  generalize hrr : shX 0 dl y = r at *
  obtain ⟨r0, r1, ⟨r2, r3, r4⟩, r5, r6⟩ := r
  obtain ⟨A4, c4, rfl, hl4⟩ := hr3.slice
  unfold exV
  dsimp only
  have o0 := HO3.out.cell 0
  have o1 := HO3.out.cell 1
  have o2 := HO3.out.cell 2
  have o3 := HO3.out.cell 3
  have o4 := HO3.out.cell 4
  have o5 := HO3.out.cell 5
  have o6 := HO3.out.cell 6
  have m0 := HO3.out.free 0
  have m1 := HO3.out.free 1
  have m2 := HO3.out.free 2
  have m3 := HO3.out.free 3
  have m4 := HO3.out.free 4
  have m5 := HO3.out.free 5
  have m6 := HO3.out.free 6
  have HX := Lib.hid (((((((HO3.out.store 0 (.int .i64 r0)).store 1 (.int .i64 r1)).store 2 (.int .i64 r2)).store 3 (.int .i64 r3)).store 4 (.string r4)).store 5 (.string r5)).store 6 (.slice A4 r6.length c4))
  clear hr3 hb3 hrr
  go_wp2
  (try simp only [Exit.inBlock, Exit.then]); refine bodyPost_ret_by (results_cell_row1 (by rfl) _ _ (w.heap.size + 1) _ (by rfl) (load_ex HX.out)) ?_ ?_; (focus rfl); refine ⟨_, rfl, ?_, ?_⟩
  · simp only [World.size_setCell]
    refine RdE.more (Nat.le_refl _) (show w.heap.size ≤ w.heap.size + 2 by omega) ?_
    exact (((((((HT.out).far (by show w.heap.size + 1 < _; omega)).far (by show w.heap.size + 1 < _; omega)).far (by show w.heap.size + 1 < _; omega)).far (by show w.heap.size + 1 < _; omega)).far (by show w.heap.size + 1 < _; omega)).far (by show w.heap.size + 1 < _; omega)).far (by show w.heap.size + 1 < _; omega)
  · exact (((((((HB3.out).setCell (by show w.heap.size ≤ w.heap.size + 1; omega) _).setCell (by show w.heap.size ≤ w.heap.size + 1; omega) _).setCell (by show w.heap.size ≤ w.heap.size + 1; omega) _).setCell (by show w.heap.size ≤ w.heap.size + 1; omega) _).setCell (by show w.heap.size ≤ w.heap.size + 1; omega) _).setCell (by show w.heap.size ≤ w.heap.size + 1; omega) _).setCell (by show w.heap.size ≤ w.heap.size + 1; omega) _
end Go.Proofs.Ytpiadcfejbnonaa
/-
  Substitute, by the reference, of any tree. Conditions: lengths, a bounded depth.
-/
namespace Go.Proofs.Ytpiadcfejbnonaa
set_option linter.unusedVariables false
set_option linter.unusedSimpArgs false
set_option maxRecDepth 100000
open Go.RowKit

theorem sbY_no (ls : List Ex) (dl d : Nat) (e : Ex) (h : ¬ (e.op = 2 ∧ wfE e.op e.n e.v.1 e.v.2.1 e.v.2.2 e.nm e.args.length = true ∧ idxB e.n ls.length = true)) : sbY ls dl (d + 1) e = ⟨e.op, e.n, e.v, e.nm, e.args.map (sbY ls dl d)⟩ := if_neg h
set_option maxRecDepth 100000 in
theorem rSubst_any (Al : Option Addr) (cl : Nat) (ls : List Ex) (dl : Nat) : ∀ (d : Nat) (e : Ex) (u : Value) (w : World) (L L2 : Nat), RdE w L w.heap.size d u e.args → RdE w L2 w.heap.size (dl + 1) (.slice Al ls.length cl) ls →
    Calls Try.prog 22 #[exV e u, .slice Al ls.length cl] w (RetX w (d + dl) (sbY ls dl d e))
  | 0, _, _, _, _, _, h, _ => h.elim
  | d + 1, e, u, w, L, L2, h, hl2 => by
    have IH : ∀ (e : Ex) (u : Value) (W : World) (L : Nat), Below w.heap.size w W → RdE W L W.heap.size d u e.args → Calls Try.prog 22 #[exV e u, .slice Al ls.length cl] W (RetX W (d + dl) (sbY ls dl d e)) := fun e u W L hb h => rSubst_any Al cl ls dl d e u W L L2 h (hl2.step hb (Nat.le_refl _))
    obtain ⟨op, n, ⟨k1, k2, s⟩, nm, es⟩ := e
    dsimp only at h
    obtain ⟨A, c, rfl, hl, hc⟩ := h
    rw [show d + 1 + dl = d + dl + 1 by omega]
    by_cases h2 : op = 2
    · subst h2
      cases hwf : wfE 2 n k1 k2 s nm es.length
      · rw [sbY_no ls dl d _ (fun q => by have := q.2.1; dsimp only at this; rw [hwf] at this; cases this)]
        exact rSub_form Al cl ls dl d w IH n k1 k2 s nm es A c L hl hc hwf
      · by_cases hn : 0 ≤ n
        · by_cases hn2 : n < ls.length
          · obtain ⟨j, rfl⟩ := Int.eq_ofNat_of_zero_le hn
            have hj : j < ls.length := by omega
            rw [show sbY ls dl (d + 1) ⟨2, (j : Int), (k1, k2, s), nm, es⟩ = shX 0 dl (ls.getD (Int.toNat (j : Int)) ⟨2, (j : Int), (k1, k2, s), nm, es⟩) from if_pos ⟨rfl, hwf, by unfold idxB; dsimp only; rw [decide_eq_true hn, decide_eq_true hn2]; rfl⟩,
              Int.toNat_natCast, show ls.getD j ⟨2, (j : Int), (k1, k2, s), nm, es⟩ = ls[j] by simp [List.getD, List.getElem?_eq_getElem hj]]
            exact rSub_hit Al cl ls dl d w j k1 k2 s nm es A c L2 hl hwf ls[j] hj hl2 (List.getElem?_eq_getElem hj)
          · rw [sbY_no ls dl d _ (fun q => by have := q.2.2; unfold idxB at this; dsimp only at this; rw [decide_eq_false hn2, Bool.and_false] at this; cases this)]
            exact rSub_high Al cl ls dl d w IH n k1 k2 s nm es A c L hl hc hwf hn hn2
        · rw [sbY_no ls dl d _ (fun q => by have := q.2.2; unfold idxB at this; dsimp only at this; rw [decide_eq_false hn, Bool.false_and] at this; cases this)]
          exact rSub_low Al cl ls dl d w IH n k1 k2 s nm es A c L hl hc hwf hn
    · rw [sbY_no ls dl d _ (fun q => h2 q.1)]
      exact rSub_other Al cl ls dl d w IH op n k1 k2 s nm es A c L hl hc (by rw [beq_eq_false_iff_ne]; exact h2)
end Go.Proofs.Ytpiadcfejbnonaa
/-
  Arguments that are expressions, opened: their numbers are ints, their columns are few. Conditions: none.
-/
namespace Go.Proofs.Ytpiadcfejbnonaa
set_option linter.unusedVariables false
set_option linter.unusedSimpArgs false
set_option maxRecDepth 100000
open Go.ChangeShapes Go.WideShapes Go.ChangeAt Go.RowKit Go.Joins Go.Deep

/-- Every number of a column lies in the range of an int. -/
def okX : Nat → Ex → Prop
  | 0, _ => True
  | d + 1, e => (Lit.int .i64 e.n).wf = true ∧ ∀ a ∈ e.args, okX d a
theorem okX_mk {op n : Int} {v : Vl} {nm : ByteArray} {es : List Ex} (h : (Lit.int .i64 n).wf = true) (ho : ∀ m, ∀ e ∈ es, okX m e) : ∀ m, okX m ⟨op, n, v, nm, es⟩
  | 0 => trivial
  | m + 1 => ⟨h, ho m⟩
theorem colE_mk {op n : Int} {v : Vl} {nm : ByteArray} {es : List Ex} {b B : Nat} (h : b < B) (ho : ∀ m, (es.flatMap (colE m)).length ≤ b) : ∀ m, (colE m ⟨op, n, v, nm, es⟩).length ≤ B
  | 0 => Nat.zero_le _
  | m + 1 => by
    show (colH ⟨op, n, v, nm, es⟩ ++ es.flatMap (colE m)).length ≤ B
    have h1 := ho m
    have h2 : (colH ⟨op, n, v, nm, es⟩).length ≤ 1 := by unfold colH; split <;> simp
    rw [List.length_append]
    omega
theorem flat_bulk {H : Type} (D : Nat → DataW H) (q : Nat → Ex) (g : Ex → List Int) : ∀ l : List Nat, (∀ i ∈ l, (g (q i)).length ≤ Rows.uptoBulk (D i)) → ((l.map q).flatMap g).length ≤ Rows.uptoBulkAll (l.map D)
  | [], _ => by simp
  | j :: l, h => by
    have h1 := flat_bulk D q g l fun i hi => h i (List.mem_cons_of_mem _ hi)
    have h2 := h j List.mem_cons_self
    simp only [List.map_cons, Rows.uptoBulkAll, List.flatMap_cons, List.length_append]
    omega
theorem wrap_wf {n : Int} (h : (Lit.int .i64 n).wf = true) : wrap64 (n + 0) = n := by
  simp only [Lit.wf, IntKind.min, IntKind.max, IntKind.signed, IntKind.bits, Bool.and_eq_true, decide_eq_true_eq, if_true] at h
  unfold wrap64
  omega
/-- Copied by a shift of 0, a tree stays. -/
theorem shX_zero : ∀ (d : Nat) (e : Ex), okX d e → shX 0 d e = e
  | 0, _, _ => rfl
  | d + 1, e, h => by
    obtain ⟨op, n, v, nm, es⟩ := e
    show (⟨op, if op = 2 then wrap64 (n + 0) else n, v, nm, es.map (shX 0 d)⟩ : Ex) = ⟨op, n, v, nm, es⟩
    have h1 : es.map (shX 0 d) = es := (List.map_congr_left fun a ha => shX_zero d a (h.2 a ha)).trans (List.map_id _)
    rw [h1, wrap_wf h.1, ite_self]
theorem sbY_eq (ls : List Ex) (dl : Nat) (hls : ∀ e ∈ ls, okX dl e) : ∀ (d : Nat) (e : Ex), sbY ls dl d e = sbX ls d e
  | 0, _ => rfl
  | d + 1, e => by
    have h1 : e.args.map (sbY ls dl d) = e.args.map (sbX ls d) := List.map_congr_left fun a _ => sbY_eq ls dl hls d a
    by_cases h : e.op = 2 ∧ wfE e.op e.n e.v.1 e.v.2.1 e.v.2.2 e.nm e.args.length = true ∧ idxB e.n ls.length = true
    · have hn : e.n.toNat < ls.length := by
        have h2 := h.2.2
        unfold idxB at h2
        simp only [Bool.and_eq_true, decide_eq_true_eq] at h2
        omega
      have hg : ls.getD e.n.toNat e = ls[e.n.toNat] := by simp [List.getD, List.getElem?_eq_getElem hn]
      rw [show sbY ls dl (d + 1) e = shX 0 dl (ls.getD e.n.toNat e) from if_pos h, show sbX ls (d + 1) e = ls.getD e.n.toNat e from if_pos h, hg]
      exact shX_zero dl _ (hls _ (List.getElem_mem hn))
    · rw [show sbY ls dl (d + 1) e = ⟨e.op, e.n, e.v, e.nm, e.args.map (sbY ls dl d)⟩ from if_neg h, show sbX ls (d + 1) e = ⟨e.op, e.n, e.v, e.nm, e.args.map (sbX ls d)⟩ from if_neg h, h1]
section
variable {H : Type} {enc : TypeId × Value → H} {W : World} {base : Nat}
set_option maxRecDepth 100000 in
/-- The own fields of an expression, and its arguments' slice. -/
theorem open_fieldsC {fuel : Nat} {cs : List Value} {x : DataW H × List MemPlace} (hf : DataW.trod enc Try.prog W 0 (fun _ => true) true fuel 26 cs = some x) :
    ∃ (op n k m : Int) (s nm : ByteArray) (u : Value) (f : Nat) (dd : DataW H) (pp : List MemPlace), (Lit.int .i64 n).wf = true ∧ cs = [.int .i64 op, .int .i64 n, .int .i64 k, .int .i64 m, .string s, .string nm, u] ∧
      DataW.trod enc Try.prog W 0 (fun _ => true) true f 24 [u] = some (dd, pp) ∧ Rows.uptoBulk dd < Rows.uptoBulk x.1 := by
  obtain ⟨xs, n', _, hxy, hcl, hxl, hfl⟩ := DataW.trod_struct Try.underlying26 hf
  rw [cellsExp] at hcl
  match xs, hxl, cs, hcl with
  | [y0, y1, y2, y3, y4], _, [v0, v1, v2, v3, v4, v5, v6], _ =>
    have g0 := hfl 0 _ rfl
    have g1 := hfl 1 _ rfl
    have g2 := hfl 2 _ rfl
    have g3 := hfl 3 _ rfl
    have g4 := hfl 4 _ rfl
    simp [cellsIntX, cellsStrX, cellsValX, cellsExps] at g0 g1 g2 g3 g4
    obtain ⟨a0, e0, _⟩ := DataW.trod_int Try.underlying3 g0
    obtain ⟨a1, e1, _, hw1⟩ := DataW.trod_int Try.underlying3 g1
    obtain ⟨a3, e3, _⟩ := DataW.trod_string Try.underlying9 g3
    obtain ⟨zs, n2, _, _, hzc, hzl, hgl⟩ := DataW.trod_struct Try.underlying23 g2
    match zs, hzl with
    | [z0, z1, z2], _ =>
      have k0 := hgl 0 _ rfl
      have k1 := hgl 1 _ rfl
      have k2 := hgl 2 _ rfl
      simp [cellsIntX, cellsStrX] at k0 k1 k2
      obtain ⟨b0, f0, _⟩ := DataW.trod_int Try.underlying3 k0
      obtain ⟨b1, f1, _⟩ := DataW.trod_int Try.underlying3 k1
      obtain ⟨b2, f2, _⟩ := DataW.trod_string Try.underlying9 k2
      simp at e0 e1 e3 f0 f1 f2
      subst e0 e1 e3 f0 f1 f2
      obtain ⟨y4a, y4b⟩ := y4
      refine ⟨a0, a1, b0, b1, b2, a3, v6, n', y4a, y4b, hw1, rfl, g4, ?_⟩
      have hd : x.1 = .agg [y0.1, y1.1, y2.1, y3.1, y4a] := by simpa using congrArg Prod.fst hxy
      rw [hd]
      simp only [Rows.uptoBulk, Rows.uptoBulkAll]
      omega
set_option maxRecDepth 100000 in
theorem open_exprsC : ∀ (N fuel : Nat) (u : Value) (d : DataW H) (p : List MemPlace), Rows.uptoBulk d ≤ N → N ≤ 1048576 → DataW.trod enc Try.prog W 0 (fun _ => true) true fuel 24 [u] = some (d, p) →
    ∃ es : List Ex, RdE W 0 W.heap.size N u es ∧ (∀ m, ∀ e ∈ es, okX m e) ∧ ∀ m, (es.flatMap (colE m)).length ≤ Rows.uptoBulk d
  | 0, _, _, d, _, hN, _, _ => by have := bulk_posX d; omega
  | N + 1, fuel, u, d, p, hN, hbig, hf => by
    rcases open_slice Try.underlying24 hf with ⟨hcs, _⟩ | ⟨a, len, cap, m, n, D, Pl, hcs, _, hl, hm, hmm, hxx, hx⟩
    · injection hcs with hcs _
      subst hcs
      exact ⟨[], ⟨none, 0, rfl, by simp, by simp⟩, by simp, by simp⟩
    · injection hcs with hcs _
      subst hcs
      rw [if_pos rfl] at hmm
      subst hmm
      have hd : d = .slice ((List.range len).map D) ((List.range (m - len)).map fun j => D (len + j)) := congrArg Prod.fst hxx
      have hlen : len ≤ Rows.uptoBulkAll ((List.range len).map D) := by have := bulk_lenX D (List.range len); rwa [List.length_range] at this
      have hsum : Rows.uptoBulkAll ((List.range len).map D) < Rows.uptoBulk d := by rw [hd]; simp only [Rows.uptoBulk]; omega
      have each : ∀ i, i < len → ∃ q : Ex × Value, ExC W (a.add (i * 7)) q.1 q.2 ∧ RdE W 0 W.heap.size N q.2 q.1.args ∧ (∀ m, okX m q.1) ∧ ∀ m, (colE m q.1).length ≤ Rows.uptoBulk (D i) := by
        intro i hi
        obtain ⟨cs', hc, ht⟩ := hx i (by omega)
        rw [cellsExp] at hc
        obtain ⟨_, hcl, hat⟩ := World.cells?_some hc
        obtain ⟨op, n1, k, m1, s, nm, w6, f, dd, pp, hwn, rfl, hg, hlt⟩ := open_fieldsC ht
        have hi2 := bulk_memX D (List.range len) i (List.mem_range.2 hi)
        obtain ⟨es, hes, hok, hcl⟩ := open_exprsC N f w6 dd pp (by dsimp only at hlt; omega) (by omega) hg
        refine ⟨(⟨op, n1, (k, m1, s), nm, es⟩, w6), ?_, hes, fun m => okX_mk hwn hok m, fun m => colE_mk (Nat.lt_of_le_of_lt (Nat.le_refl _) hlt) hcl m⟩
        have c0 := hat 0 (by omega)
        have c1 := hat 1 (by omega)
        have c2 := hat 2 (by omega)
        have c3 := hat 3 (by omega)
        have c4 := hat 4 (by omega)
        have c5 := hat 5 (by omega)
        have c6 := hat 6 (by omega)
        have ea : ∀ j, j ≠ 0 → (a.add (i * 7)).add j = ⟨(a.add (i * 7)).block, (a.add (i * 7)).off + j, none⟩ := fun j hj => by unfold Addr.add; rw [if_neg hj]
        rw [show (a.add (i * 7)).add 0 = a.add (i * 7) by unfold Addr.add; simp] at c0
        rw [ea 1 (by decide)] at c1
        rw [ea 2 (by decide)] at c2
        rw [ea 3 (by decide)] at c3
        rw [ea 4 (by decide)] at c4
        rw [ea 5 (by decide)] at c5
        rw [ea 6 (by decide)] at c6
        exact ⟨by simpa using c0, by simpa using c1, by simpa using c2, by simpa using c3, by simpa using c4, by simpa using c5, by simpa using c6⟩
      haveI : Inhabited (Ex × Value) := ⟨(⟨0, 0, (0, 0, ⟨#[]⟩), ⟨#[]⟩, []⟩, undef)⟩
      obtain ⟨q, hq⟩ := choose_lt each
      refine ⟨(List.range len).map fun i => (q i).1, ⟨some a, _, by rw [List.length_map, List.length_range], by rw [List.length_map, List.length_range]; omega, fun k e hk => ?_⟩, fun m e he => ?_, fun m => ?_⟩
      rotate_left
      · obtain ⟨i, hi, rfl⟩ := List.mem_map.1 he
        exact (hq i (List.mem_range.1 hi)).2.2.1 m
      · have h := flat_bulk D (fun i => (q i).1) (colE m) (List.range len) (fun i hi => (hq i (List.mem_range.1 hi)).2.2.2 m)
        omega
      obtain ⟨hk1, hk2⟩ := List.getElem?_eq_some_iff.1 hk
      simp at hk1 hk2
      subst hk2
      obtain ⟨g0, g1, _⟩ := hq k hk1
      have hb := cell_ltX g0.1
      rw [add_blk] at hb
      exact ⟨a, (q k).2, rfl, Nat.zero_le _, hb, g0, g1⟩
/-- An argument that is an expression: its numbers are ints, its columns are few. -/
theorem open_expC {v : Value} {d : DataW H} {p : List MemPlace} (hv : Value.okWide Try.prog W .any base 26 v) (h : DataW.Trod enc Try.prog W 0 (fun _ => true) true 26 v d p) (hN : Rows.uptoBulk d ≤ 1048576) :
    ∃ (e : Ex) (A : Option Addr) (c : Nat), v = exV e (.slice A e.args.length c) ∧ RdE W 0 W.heap.size 1048576 (.slice A e.args.length c) e.args ∧ (∀ m, okX m e) ∧ ∀ m, (colE m e).length ≤ Rows.uptoBulk d := by
  obtain ⟨cs, rfl, hsz⟩ := okWide_struct Try.underlying26 hv
  obtain ⟨fuel, hf⟩ := h
  obtain ⟨op, n1, k, m1, s, nm, w6, f, dd, pp, hwn, hcs, hg, hlt⟩ := open_fieldsC hf
  obtain ⟨es, hes, hok, hcl⟩ := open_exprsC (Rows.uptoBulk dd) f w6 dd pp (Nat.le_refl _) (by dsimp only at hlt; omega) hg
  obtain ⟨A, c, rfl, _⟩ := hes.slice
  obtain ⟨l⟩ := cs
  simp only [Value.cells] at hcs
  refine ⟨⟨op, n1, (k, m1, s), nm, es⟩, A, c, ?_, hes.up (by dsimp only at hlt; omega), fun m => okX_mk hwn hok m, fun m => colE_mk hlt hcl m⟩
  unfold exV
  dsimp only
  exact congrArg (fun l => Value.agg l.toArray) hcs
/-- An argument that is a list of expressions. -/
theorem open_expsC {v : Value} {d : DataW H} {p : List MemPlace} (hv : Value.okWide Try.prog W .any base 24 v) (h : DataW.Trod enc Try.prog W 0 (fun _ => true) true 24 v d p) (hN : Rows.uptoBulk d ≤ 1048576) :
    ∃ ls : List Ex, RdE W 0 W.heap.size 1048576 v ls ∧ ∀ m, ∀ e ∈ ls, okX m e := by
  obtain ⟨a0, len0, cap0, rfl⟩ := okWide_slice Try.underlying24 hv
  obtain ⟨fuel, hf⟩ := h
  obtain ⟨es, hes, hok, _⟩ := open_exprsC (Rows.uptoBulk d) fuel _ d p (Nat.le_refl _) hN hf
  exact ⟨es, hes.up hN, hok⟩
end
end Go.Proofs.Ytpiadcfejbnonaa
