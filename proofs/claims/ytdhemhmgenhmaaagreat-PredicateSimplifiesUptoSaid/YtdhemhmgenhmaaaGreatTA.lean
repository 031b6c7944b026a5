import Derived.Test.YtdhemhmgenhmaaaGreatME
import Derived.Test.YtdhemhmgenhmaaaGreatMC
import Derived.WalkKit
import Derived.WalkSpells
import Derived.WalkLawsBesides
import Derived.Deep.QuietTactic
import Derived.BigQuiet
import Derived.Handy
import Derived.Lib.Hide
import Derived.Test.YtdhemhmgenhmaaaGreatMV
import Derived.Test.YtdhemhmgenhmaaaGreatQF
import Derived.Test.YtdhemhmgenhmaaaGreatQP
set_option maxRecDepth 100000
set_option maxHeartbeats 25600000
set_option linter.unusedVariables false
set_option linter.unusedSimpArgs false
/-
  Trees that a call makes: rows of expressions in new memory. Conditions: lengths.
-/
namespace Go.Proofs.YtdhemhmgenhmaaaGreat
open Go.RowKit
abbrev ExU := Ex × Value
def exL (p : ExU) : List Value := [.int .i64 p.1.op, .int .i64 p.1.n, .int .i64 p.1.v.1, .int .i64 p.1.v.2.1, .string p.1.v.2.2, .string p.1.nm, p.2]
def flatE : List ExU → List Value
 | [] => []
 | p :: t => exL p ++ flatE t
theorem flatE_append : ∀ a b : List ExU, flatE (a ++ b) = flatE a ++ flatE b
 | [], b => rfl
 | p :: t, b => by
  show exL p ++ flatE (t ++ b) = (exL p ++ flatE t) ++ flatE b
  rw [flatE_append t b, List.append_assoc]
theorem exL_len (p : ExU) : (exL p).length = 7 := rfl
theorem flatE_len : ∀ a : List ExU, (flatE a).length = a.length * 7
 | [] => rfl
 | p :: t => by
  show (exL p ++ flatE t).length = _
  rw [List.length_append, flatE_len t, exL_len, List.length_cons]
  omega
theorem flatE_get (ps : List ExU) (k : Nat) (p : ExU) (h : ps[k]? = some p) (j : Nat) (hj : j < 7) : (flatE ps)[k * 7 + j]? = (exL p)[j]? := by
 obtain ⟨hk, rfl⟩ := List.getElem?_eq_some_iff.1 h
 have e : ps = ps.take k ++ ps[k] :: ps.drop (k + 1) := by rw [List.getElem_cons_drop, List.take_append_drop]
 have e2 : flatE ps = flatE (ps.take k) ++ (exL ps[k] ++ flatE (ps.drop (k + 1))) := by
  conv => lhs; rw [e]
  rw [flatE_append]
  rfl
 have hl : (flatE (ps.take k)).length = k * 7 := by rw [flatE_len, List.length_take]; omega
 rw [e2, List.getElem?_append_right (by omega), hl, show k * 7 + j - k * 7 = j by omega, List.getElem?_append_left (by rw [exL_len]; exact hj)]
def zX : ExU := (⟨0, 0, (0, 0, ⟨#[]⟩), ⟨#[]⟩, []⟩, .slice none 0 0)
def rowE (ps : List ExU) (n : Nat) : Array Value := (flatE (ps ++ List.replicate (n - ps.length) zX)).toArray
theorem rowE_next (ps : List ExU) (n : Nat) (h : ps.length < n) (j : Nat) (hj : j < 7) : (rowE ps n)[ps.length * 7 + j]? = (exL zX)[j]? := by
 unfold rowE
 rw [List.getElem?_toArray]
 refine flatE_get _ _ _ ?_ j hj
 rw [List.getElem?_append_right (Nat.le_refl _), Nat.sub_self, List.getElem?_replicate, if_pos (by omega)]
theorem set7 (a : List Value) (x0 x1 x2 x3 x4 x5 x6 y0 y1 y2 y3 y4 y5 y6 : Value) (b : List Value) (i : Nat) (h : a.length = i) :
  (((((((a ++ ([x0, x1, x2, x3, x4, x5, x6] ++ b)).set i y0).set (i + 1) y1).set (i + 2) y2).set (i + 3) y3).set (i + 4) y4).set (i + 5) y5).set (i + 6) y6 = a ++ ([y0, y1, y2, y3, y4, y5, y6] ++ b) := by
 subst h
 have st : ∀ (l : List Value) (j : Nat) (y : Value), (a ++ l).set (a.length + j) y = a ++ l.set j y := fun l j y => by
  rw [List.set_append_right _ _ (by omega), show a.length + j - a.length = j by omega]
 have s0 := st ([x0, x1, x2, x3, x4, x5, x6] ++ b) 0 y0
 rw [Nat.add_zero] at s0
 rw [s0, st, st, st, st, st, st]
 rfl
theorem rowE_set (ps : List ExU) (n : Nat) (p : ExU) (h : ps.length < n) :
  (((((((rowE ps n).setIfInBounds (ps.length * 7) (.int .i64 p.1.op)).setIfInBounds (ps.length * 7 + 1) (.int .i64 p.1.n)).setIfInBounds (ps.length * 7 + 2) (.int .i64 p.1.v.1)).setIfInBounds (ps.length * 7 + 3) (.int .i64 p.1.v.2.1)).setIfInBounds (ps.length * 7 + 4) (.string p.1.v.2.2)).setIfInBounds (ps.length * 7 + 5) (.string p.1.nm)).setIfInBounds (ps.length * 7 + 6) p.2 = rowE (ps ++ [p]) n := by
 unfold rowE
 simp only [List.setIfInBounds_toArray]
 congr 1
 have e : List.replicate (n - ps.length) zX = zX :: List.replicate (n - (ps ++ [p]).length) zX := by
  rw [show n - ps.length = (n - (ps ++ [p]).length) + 1 by rw [List.length_append]; simp; omega]
  rfl
 rw [e, flatE_append, flatE_append, flatE_append, List.append_assoc]
 exact set7 (flatE ps) _ _ _ _ _ _ _ (.int .i64 p.1.op) (.int .i64 p.1.n) (.int .i64 p.1.v.1) (.int .i64 p.1.v.2.1) (.string p.1.v.2.2) (.string p.1.nm) p.2 (flatE (List.replicate (n - (ps ++ [p]).length) zX)) (ps.length * 7) (flatE_len ps)
theorem flatE_rep (z : ExU) : ∀ (n i : Nat), i < n * 7 → (flatE (List.replicate n z))[i]? = (exL z)[i % 7]?
 | 0, i, h => by omega
 | n + 1, i, h => by
  show (exL z ++ flatE (List.replicate n z))[i]? = _
  by_cases hi : i < 7
  ·rw [List.getElem?_append_left (by rw [exL_len]; exact hi), Nat.mod_eq_of_lt hi]
  ·rw [List.getElem?_append_right (by rw [exL_len]; omega), exL_len, flatE_rep z n (i - 7) (by omega)]
   congr 1
   omega
theorem infoX : (Tryz.prog.info? 26).map (fun i => (i.zero, i.size, i.bytes)) = some (some (.agg #[.int .i64 0, .int .i64 0, .int .i64 0, .int .i64 0, .string ⟨#[]⟩, .string ⟨#[]⟩, .slice none 0 0]), 7, 88) := by kernel_rfl
theorem made_rowE (W : World) (n : Nat) (hn : n ≤ 1099511627776) :
  (Instr.makeSlice 24 (.int .i64 (n : Nat)) (.int .i64 (n : Nat))).run Tryz.prog W = .ok (.slice (some ⟨W.heap.size, 0, none⟩) n n) (W.alloc (.cells (rowE [] n) 26)) := by
 obtain ⟨i0, hi, hz0, hz1, hz2⟩ := info_partsB infoX
 have h := run_make (P := Tryz.prog) (w := W) 24 26 i0 (.agg #[.int .i64 0, .int .i64 0, .int .i64 0, .int .i64 0, .string ⟨#[]⟩, .string ⟨#[]⟩, .slice none 0 0]) Tryz.underlying24 hi hz0 .i64 .i64 (n : Int) (n : Int) (by omega) (Int.le_refl _) (by rw [hz2]; omega) (by omega)
 rw [h, Int.toNat_natCast, hz1]
 have hr : madeCells (Value.agg #[.int .i64 0, .int .i64 0, .int .i64 0, .int .i64 0, .string ⟨#[]⟩, .string ⟨#[]⟩, .slice none 0 0]).cells (n * 7) = rowE [] n := by
  unfold rowE
  rw [List.nil_append, List.length_nil, Nat.sub_zero]
  unfold madeCells
  apply Array.ext
  ·simp [flatE_len]
  ·intro i h1 h2
   have h3 : i < n * 7 := by simpa using h1
   have h4 := flatE_rep zX n i h3
   have h5 : i % 7 < 7 := Nat.mod_lt _ (by decide)
   rw [← List.getElem?_toArray, Array.getElem?_eq_getElem h2] at h4
   have h6 : (exL zX)[i % 7]? = some ((exL zX)[i % 7]'(by rw [exL_len]; exact h5)) := List.getElem?_eq_getElem _
   rw [h6] at h4
   injection h4 with h4
   rw [h4]
   simp [Value.cells]
   show ((exL zX)[i % 7]?).getD default = _
   rw [h6]
   rfl
 rw [hr]
theorem addX (g j : Nat) : (⟨g, 0, none⟩ : Addr).add j = ⟨g, j, none⟩ := by
 unfold Addr.add
 split <;> simp_all
theorem rdE_row {w : World} {g L d c : Nat} {ps : List ExU} (h : Own w g 26 (flatE ps).toArray) (hg : L ≤ g) (hl : ps.length ≤ 1099511627776) (hr : ∀ p ∈ ps, RdE w L w.heap.size d p.2 p.1.args) :
  RdE w L w.heap.size (d + 1) (.slice (some ⟨g, 0, none⟩) ps.length c) (ps.map (·.1)) := by
 refine ⟨some ⟨g, 0, none⟩, c, by rw [List.length_map], by rw [List.length_map]; exact hl, fun k e hk => ?_⟩
 rw [List.getElem?_map] at hk
 obtain ⟨p, hp, rfl⟩ := Option.map_eq_some_iff.1 hk
 refine ⟨⟨g, 0, none⟩, p.2, rfl, hg, h.lt, ?_, hr p (List.mem_of_getElem? hp)⟩
 rw [addX]
 have G := fun j hj => (h.cell (k * 7 + j)).trans ((List.getElem?_toArray ..).trans (flatE_get ps k p hp j hj))
 exact ⟨G 0 (by decide), G 1 (by decide), G 2 (by decide), G 3 (by decide), G 4 (by decide), G 5 (by decide), G 6 (by decide)⟩
theorem rowE_all (ps : List ExU) : rowE ps ps.length = (flatE ps).toArray := by
 unfold rowE
 rw [Nat.sub_self]
 simp
theorem RdE.far {w : World} {L B : Nat} {p : Addr} {v : Value} (hp : p.block < L) : ∀ {d : Nat} {u : Value} {es : List Ex}, RdE w L B d u es → RdE (w.setCell p v) L B d u es
 | 0, _, _, h => h
 | d + 1, u, es, ⟨A, c, hv, hl, hc⟩ => ⟨A, c, hv, hl, fun k e hk => by
   obtain ⟨ad, x, h1, h2, h3, h4, h5⟩ := hc k e hk
   have hne : ∀ i, p.block ≠ (⟨(ad.add (k * 7)).block, (ad.add (k * 7)).off + i, none⟩ : Addr).block := fun i => by show p.block ≠ (ad.add (k * 7)).block; rw [add_blk]; omega
   obtain ⟨q0, q1, q2, q3, q4, q5, q6⟩ := h4
   exact ⟨ad, x, h1, h2, h3, ⟨(World.cell?_setCell_far w p (ad.add (k * 7)) v (by rw [add_blk]; omega)).trans q0, (World.cell?_setCell_far _ p _ _ (hne 1)).trans q1, (World.cell?_setCell_far _ p _ _ (hne 2)).trans q2, (World.cell?_setCell_far _ p _ _ (hne 3)).trans q3, (World.cell?_setCell_far _ p _ _ (hne 4)).trans q4, (World.cell?_setCell_far _ p _ _ (hne 5)).trans q5, (World.cell?_setCell_far _ p _ _ (hne 6)).trans q6⟩, RdE.far hp h5⟩⟩
theorem load_ex {w : World} {g : Nat} {x0 x1 x2 x3 x4 x5 x6 : Value} (h : Own w g 26 #[x0, x1, x2, x3, x4, x5, x6]) : (loadVar 26 ⟨g, 0, none⟩).run Tryz.prog w = .ok (.agg #[x0, x1, x2, x3, x4, x5, x6]) w :=
 run_loadVar_row w g 26 26 #[x0, x1, x2, x3, x4, x5, x6] (0, 0) _ h Tryz.underlying26 rfl (by kernel_rfl)
def RetX (w : World) (d : Nat) (r : Ex) (e : Ending) (w' : World) : Prop := ∃ u, e = .returned (exV r u) ∧ RdE w' w.heap.size w'.heap.size d u r.args ∧ Below w.heap.size w w'
theorem withArgs_clone (gf : Ex → Ex) (d d' : Nat) (e : Ex) (u : Value) (w : World) (L : Nat) (h : RdE w L w.heap.size (d + 1) u e.args)
  (hF : ∀ (a : Ex) (ua : Value) (W : World), Below w.heap.size w W → a ∈ e.args → RdE W L W.heap.size d ua a.args → Calls Tryz.prog 132 #[exV a ua] W (RetX W d' (gf a))) :
  Calls Tryz.prog 133 #[exV e u, .func (.func 132) #[] #[]] w (RetX w (d' + 1) ⟨e.op, e.n, e.v, e.nm, e.args.map gf⟩) := by
 obtain ⟨op, n, ⟨k1, k2, s⟩, nm, es⟩ := e
 unfold exV
 dsimp only at h hF ⊢
 obtain ⟨A, c, rfl, hl, hc⟩ := h
 have HC := Lib.hid hc
 have HF := Lib.hid hF
 clear hc hF
 have HE0 := Lib.hid (show Own ((w.alloc (.cells #[.int .i64 op, .int .i64 n, .int .i64 k1, .int .i64 k2, .string s, .string nm, .slice A es.length c] 26)).alloc (.cells #[.int .i64 0, .int .i64 0, .int .i64 0, .int .i64 0, .string ⟨#[]⟩, .string ⟨#[]⟩, .slice none 0 0] 26)) w.heap.size 26 #[.int .i64 op, .int .i64 n, .int .i64 k1, .int .i64 k2, .string s, .string nm, .slice A es.length c] from (Own.new w _ _).alloc _)
 have HO0 := Lib.hid (show Own ((w.alloc (.cells #[.int .i64 op, .int .i64 n, .int .i64 k1, .int .i64 k2, .string s, .string nm, .slice A es.length c] 26)).alloc (.cells #[.int .i64 0, .int .i64 0, .int .i64 0, .int .i64 0, .string ⟨#[]⟩, .string ⟨#[]⟩, .slice none 0 0] 26)) (w.heap.size + 1) 26 #[.int .i64 0, .int .i64 0, .int .i64 0, .int .i64 0, .string ⟨#[]⟩, .string ⟨#[]⟩, .slice none 0 0] from Va.own_two _)
 have HB0 := Lib.hid (show Below w.heap.size w ((w.alloc (.cells #[.int .i64 op, .int .i64 n, .int .i64 k1, .int .i64 k2, .string s, .string nm, .slice A es.length c] 26)).alloc (.cells #[.int .i64 0, .int .i64 0, .int .i64 0, .int .i64 0, .string ⟨#[]⟩, .string ⟨#[]⟩, .slice none 0 0] 26)) from (bel_mk w _).trans ((bel_mk _ _).mono (by simp)))
 by_cases hz : es.length = 0
 ·obtain rfl := List.eq_nil_of_length_eq_zero hz
  dsimp only [List.length_nil, List.map_nil] at *
  clear hz hl
  go_enter Tryz.func133, Tryz.ntmps133
  go_wp2_with fail
  go_loopw [19] (fun i wr => i = .int .i64 0 ∧ Hid (Own wr w.heap.size 26 #[.int .i64 op, .int .i64 n, .int .i64 k1, .int .i64 k2, .string s, .string nm, .slice A 0 c]) ∧ Hid (Own wr (w.heap.size + 1) 26 #[.int .i64 0, .int .i64 0, .int .i64 0, .int .i64 0, .string ⟨#[]⟩, .string ⟨#[]⟩, .slice none 0 0]) ∧ Below w.heap.size w wr) (fun i _ => 0)
  case atStart => exact ⟨rfl, HE0, HO0, HB0.out⟩
  case round =>
   clear HE0 HO0 HB0
   obtain ⟨rfl, HE, HO, hbr⟩ := hrel
   have HT := Lib.hid (show RdE wr (w.heap.size + 1 + 1) wr.heap.size (d' + 1) (.slice none 0 0) [] from ⟨none, 0, rfl, by simp, fun k e hk => by simp at hk⟩)
   have e0 := HE.out.cell 0
   have e1 := HE.out.cell 1
   have e2 := HE.out.cell 2
   have e3 := HE.out.cell 3
   have e4 := HE.out.cell 4
   have e5 := HE.out.cell 5
   have e6 := HE.out.cell 6
   have f6 := HE.out.free 6
   have o0 := HO.out.cell 0
   have o1 := HO.out.cell 1
   have o2 := HO.out.cell 2
   have o3 := HO.out.cell 3
   have o4 := HO.out.cell 4
   have o5 := HO.out.cell 5
   have o6 := HO.out.cell 6
   have m0 := HO.out.free 0
   have m1 := HO.out.free 1
   have m2 := HO.out.free 2
   have m3 := HO.out.free 3
   have m4 := HO.out.free 4
   have m5 := HO.out.free 5
   have m6 := HO.out.free 6
   have HX := Lib.hid ((((((((HO.out.far (p := ⟨w.heap.size, 6, none⟩) (by show w.heap.size + 1 ≠ w.heap.size; omega) (.slice none 0 0)).store 0 (.int .i64 op)).store 1 (.int .i64 n)).store 2 (.int .i64 k1)).store 3 (.int .i64 k2)).store 4 (.string s)).store 5 (.string nm)).store 6 (.slice none 0 0))
   have HBR := Lib.hid hbr
   clear hbr HE HO
   go_wp2
   (try simp only [Exit.inBlock, Exit.then]); refine bodyPost_ret_by (results_cell_row1 (by rfl) _ _ (w.heap.size + 1) _ (by rfl) (load_ex HX.out)) ?_ ?_; (focus rfl); refine ⟨_, rfl, ?_, ?_⟩
   ·simp only [World.size_setCell]
    refine RdE.more (Nat.le_refl _) (show w.heap.size ≤ w.heap.size + 1 + 1 by omega) ?_
    exact ((((((((HT.out.far (p := ⟨w.heap.size, 6, none⟩) (by show w.heap.size < _; omega)).far (by show w.heap.size + 1 < _; omega)).far (by show w.heap.size + 1 < _; omega)).far (by show w.heap.size + 1 < _; omega)).far (by show w.heap.size + 1 < _; omega)).far (by show w.heap.size + 1 < _; omega)).far (by show w.heap.size + 1 < _; omega)).far (by show w.heap.size + 1 < _; omega))
   ·exact (((((((HBR.out.sc w.heap.size 6 _).setCell (Nat.le_succ _) _).setCell (Nat.le_succ _) _).setCell (Nat.le_succ _) _).setCell (Nat.le_succ _) _).setCell (Nat.le_succ _) _).setCell (Nat.le_succ _) _).setCell (Nat.le_succ _) _
 ·have hgt : (0 : Int) < es.length := by omega
  have hmk := made_rowE ((w.alloc (.cells #[.int .i64 op, .int .i64 n, .int .i64 k1, .int .i64 k2, .string s, .string nm, .slice A es.length c] 26)).alloc (.cells #[.int .i64 0, .int .i64 0, .int .i64 0, .int .i64 0, .string ⟨#[]⟩, .string ⟨#[]⟩, .slice none 0 0] 26)) es.length hl
  simp only [World.size_alloc] at hmk
  have HE1 := Lib.hid (HE0.out.alloc (.cells (rowE [] es.length) 26))
  have HO1 := Lib.hid (HO0.out.alloc (.cells (rowE [] es.length) 26))
  have HR1 := Lib.hid (show Own (((w.alloc (.cells #[.int .i64 op, .int .i64 n, .int .i64 k1, .int .i64 k2, .string s, .string nm, .slice A es.length c] 26)).alloc (.cells #[.int .i64 0, .int .i64 0, .int .i64 0, .int .i64 0, .string ⟨#[]⟩, .string ⟨#[]⟩, .slice none 0 0] 26)).alloc (.cells (rowE [] es.length) 26)) (w.heap.size + 1 + 1) 26 (rowE [] es.length) from by have h := Own.new ((w.alloc (.cells #[.int .i64 op, .int .i64 n, .int .i64 k1, .int .i64 k2, .string s, .string nm, .slice A es.length c] 26)).alloc (.cells #[.int .i64 0, .int .i64 0, .int .i64 0, .int .i64 0, .string ⟨#[]⟩, .string ⟨#[]⟩, .slice none 0 0] 26)) 26 (rowE [] es.length); simp only [World.size_alloc] at h; exact h)
  have HB1 := Lib.hid (HB0.out.trans ((bel_mk ((w.alloc (.cells #[.int .i64 op, .int .i64 n, .int .i64 k1, .int .i64 k2, .string s, .string nm, .slice A es.length c] 26)).alloc (.cells #[.int .i64 0, .int .i64 0, .int .i64 0, .int .i64 0, .string ⟨#[]⟩, .string ⟨#[]⟩, .slice none 0 0] 26)) (.cells (rowE [] es.length) 26)).mono HB0.out.size))
  have d6 := HE0.out.cell 6
  have f6 := HE1.out.cell 6
  clear HE0 HO0 HB0 hz
  go_enter Tryz.func133, Tryz.ntmps133
  go_wp2_with fail
  clear hmk d6 f6
  go_loopw [19] (fun i wr => ∃ k : Nat, k ≤ es.length ∧ i = .int .i64 k ∧ Hid (∃ qs : List ExU, qs.length = k ∧ qs.map (·.1) = (es.take k).map gf ∧ Own wr (w.heap.size + 1 + 1) 26 (rowE qs es.length) ∧ ∀ q ∈ qs, RdE wr (w.heap.size + 3) wr.heap.size d' q.2 q.1.args) ∧ Hid (Own wr w.heap.size 26 #[.int .i64 op, .int .i64 n, .int .i64 k1, .int .i64 k2, .string s, .string nm, .slice A es.length c]) ∧ Hid (Own wr (w.heap.size + 1) 26 #[.int .i64 0, .int .i64 0, .int .i64 0, .int .i64 0, .string ⟨#[]⟩, .string ⟨#[]⟩, .slice none 0 0]) ∧ Below w.heap.size w wr) (fun i _ => es.length - (intOf i).toNat)
  case atStart => exact ⟨0, Nat.zero_le _, rfl, Lib.hid ⟨[], rfl, rfl, HR1.out, by simp⟩, HE1, HO1, HB1.out⟩
  case round =>
   clear HE1 HO1 HR1 HB1
   obtain ⟨k, hk, rfl, HQ, HE, HO, hbr⟩ := hrel
   have hbz := hbr.size
   by_cases hlt : k < es.length
   ·have hki : (k : Int) < es.length := by omega
    obtain ⟨ad, x, rfl, _, hab, hxc, hxr⟩ := HC.out k _ (List.getElem?_eq_getElem hlt)
    have htk : (es.take (k + 1)).map gf = (es.take k).map gf ++ [gf es[k]] := by rw [List.take_add_one, List.getElem?_eq_getElem hlt, List.map_append]; rfl
    have hmem := List.getElem_mem hlt
    generalize es[k] = y at *
    obtain ⟨A3, c3, rfl, hl3⟩ := hxr.slice
    obtain ⟨x0, x1, x2, x3, x4, x5, x6⟩ := hxc.below hbr (by rw [add_blk]; exact hab)
    have b2 := bel_mk wr (.cells (exA y (.slice A3 y.args.length c3)) 26)
    have HB2 := Lib.hid (hbr.trans (b2.mono hbz))
    have HCL := Lib.hid (HF.out y (.slice A3 y.args.length c3) (wr.alloc (.cells (exA y (.slice A3 y.args.length c3)) 26)) HB2.out hmem (hxr.step HB2.out (Nat.le_refl _)))
    have HY := Lib.hid (Own.new wr 26 (exA y (.slice A3 y.args.length c3)))
    have HE2 := Lib.hid (HE.out.below b2 HE.out.lt)
    have HO2 := Lib.hid (HO.out.below b2 HO.out.lt)
    have HQ2 := Lib.hid (show ∃ qs : List ExU, qs.length = k ∧ qs.map (·.1) = (es.take k).map gf ∧ Own (wr.alloc (.cells (exA y (.slice A3 y.args.length c3)) 26)) (w.heap.size + 1 + 1) 26 (rowE qs es.length) ∧ ∀ q ∈ qs, RdE (wr.alloc (.cells (exA y (.slice A3 y.args.length c3)) 26)) (w.heap.size + 3) (wr.alloc (.cells (exA y (.slice A3 y.args.length c3)) 26)).heap.size d' q.2 q.1.args from by
     obtain ⟨qs, h1, h2, h3, h4⟩ := HQ.out
     exact ⟨qs, h1, h2, h3.below b2 h3.lt, fun q hq => (h4 q hq).step b2 (Nat.le_refl _)⟩)
    have HTK := Lib.hid htk
    have y0 := HY.out.cell 0
    have y1 := HY.out.cell 1
    have y2 := HY.out.cell 2
    have y3 := HY.out.cell 3
    have y4 := HY.out.cell 4
    have y5 := HY.out.cell 5
    have y6 := HY.out.cell 6
    clear hxc hxr htk hmem b2 HE HO HQ
    unfold exA exV at *
    generalize gf y = r at *
    go_wp2_with fail
    with_reducible refine HCL.out.mono ?_
    rintro e w3 ⟨u3, rfl, hr3, hb3⟩
    have HE3 := Lib.hid (HE2.out.below hb3 HE2.out.lt)
    have HO3 := Lib.hid (HO2.out.below hb3 HO2.out.lt)
    have HB3 := Lib.hid (HB2.out.trans (hb3.mono HB2.out.size))
    obtain ⟨qs, g1, g2, g3, g4⟩ := HQ2.out
    have G3 := g3.below hb3 g3.lt
    have hs3 := HB3.out.size
    have HR3 := Lib.hid (hr3.more (Nat.le_refl _) (show w.heap.size + 3 ≤ _ from g3.lt))
    have HG4 := Lib.hid (fun q hq => (g4 q hq).step hb3 (Nat.le_refl _))
    subst g1
    have HG2 := Lib.hid g2
    have hqk : qs.length < es.length := hlt
    obtain ⟨r0, r1, ⟨r2, r3, r4⟩, r5, r6⟩ := r
    obtain ⟨A4, c4, rfl, hl4⟩ := hr3.slice
    have z0 : w3.cell? ⟨w.heap.size + 1 + 1, qs.length * 7, none⟩ = some (.int .i64 0) := (G3.cell (qs.length * 7)).trans (rowE_next qs es.length hqk 0 (by decide))
    have z1 : w3.cell? ⟨w.heap.size + 1 + 1, qs.length * 7 + 1, none⟩ = some (.int .i64 0) := (G3.cell (qs.length * 7 + 1)).trans (rowE_next qs es.length hqk 1 (by decide))
    have z2 : w3.cell? ⟨w.heap.size + 1 + 1, qs.length * 7 + 2, none⟩ = some (.int .i64 0) := (G3.cell (qs.length * 7 + 2)).trans (rowE_next qs es.length hqk 2 (by decide))
    have z3 : w3.cell? ⟨w.heap.size + 1 + 1, qs.length * 7 + 3, none⟩ = some (.int .i64 0) := (G3.cell (qs.length * 7 + 3)).trans (rowE_next qs es.length hqk 3 (by decide))
    have z4 : w3.cell? ⟨w.heap.size + 1 + 1, qs.length * 7 + 4, none⟩ = some (.string ⟨#[]⟩) := (G3.cell (qs.length * 7 + 4)).trans (rowE_next qs es.length hqk 4 (by decide))
    have z5 : w3.cell? ⟨w.heap.size + 1 + 1, qs.length * 7 + 5, none⟩ = some (.string ⟨#[]⟩) := (G3.cell (qs.length * 7 + 5)).trans (rowE_next qs es.length hqk 5 (by decide))
    have z6 : w3.cell? ⟨w.heap.size + 1 + 1, qs.length * 7 + 6, none⟩ = some (.slice none 0 0) := (G3.cell (qs.length * 7 + 6)).trans (rowE_next qs es.length hqk 6 (by decide))
    have j0 := G3.free (qs.length * 7)
    have j1 := G3.free (qs.length * 7 + 1)
    have j2 := G3.free (qs.length * 7 + 2)
    have j3 := G3.free (qs.length * 7 + 3)
    have j4 := G3.free (qs.length * 7 + 4)
    have j5 := G3.free (qs.length * 7 + 5)
    have j6 := G3.free (qs.length * 7 + 6)
    have HS := Lib.hid (((((((G3.store (qs.length * 7) (.int .i64 r0)).store (qs.length * 7 + 1) (.int .i64 r1)).store (qs.length * 7 + 2) (.int .i64 r2)).store (qs.length * 7 + 3) (.int .i64 r3)).store (qs.length * 7 + 4) (.string r4)).store (qs.length * 7 + 5) (.string r5)).store (qs.length * 7 + 6) (.slice A4 r6.length c4))
    have hset := rowE_set qs es.length (⟨r0, r1, (r2, r3, r4), r5, r6⟩, .slice A4 r6.length c4) hqk
    have HS2 := Lib.hid (hset ▸ HS.out)
    unfold exV
    dsimp only
    clear hr3 hb3 g2 g3 g4 G3 hset HS HQ2 y0 y1 y2 y3 y4 y5 y6 HCL
    go_wp2
    go_roundw
    case rel =>
     refine ⟨qs.length + 1, by omega, by go_num, Lib.hid ⟨qs ++ [(⟨r0, r1, (r2, r3, r4), r5, r6⟩, .slice A4 r6.length c4)], by simp, ?_, HS2.out, ?_⟩, Lib.hid ?_, Lib.hid ?_, ?_⟩
     ·rw [HTK.out, List.map_append, HG2.out]; rfl
     ·intro q hq
      simp only [World.size_setCell]
      rcases List.mem_append.1 hq with hq | hq
      ·exact (((((((HG4.out q hq).far (by show w.heap.size + 1 + 1 < _; omega)).far (by show w.heap.size + 1 + 1 < _; omega)).far (by show w.heap.size + 1 + 1 < _; omega)).far (by show w.heap.size + 1 + 1 < _; omega)).far (by show w.heap.size + 1 + 1 < _; omega)).far (by show w.heap.size + 1 + 1 < _; omega)).far (by show w.heap.size + 1 + 1 < _; omega)
      ·rw [List.mem_singleton.1 hq]
       exact ((((((HR3.out.far (by show w.heap.size + 1 + 1 < _; omega)).far (by show w.heap.size + 1 + 1 < _; omega)).far (by show w.heap.size + 1 + 1 < _; omega)).far (by show w.heap.size + 1 + 1 < _; omega)).far (by show w.heap.size + 1 + 1 < _; omega)).far (by show w.heap.size + 1 + 1 < _; omega)).far (by show w.heap.size + 1 + 1 < _; omega)
     ·exact ((((((HE3.out.far (by show w.heap.size ≠ w.heap.size + 1 + 1; omega) _).far (by show w.heap.size ≠ w.heap.size + 1 + 1; omega) _).far (by show w.heap.size ≠ w.heap.size + 1 + 1; omega) _).far (by show w.heap.size ≠ w.heap.size + 1 + 1; omega) _).far (by show w.heap.size ≠ w.heap.size + 1 + 1; omega) _).far (by show w.heap.size ≠ w.heap.size + 1 + 1; omega) _).far (by show w.heap.size ≠ w.heap.size + 1 + 1; omega) _
     ·exact ((((((HO3.out.far (by show w.heap.size + 1 ≠ w.heap.size + 1 + 1; omega) _).far (by show w.heap.size + 1 ≠ w.heap.size + 1 + 1; omega) _).far (by show w.heap.size + 1 ≠ w.heap.size + 1 + 1; omega) _).far (by show w.heap.size + 1 ≠ w.heap.size + 1 + 1; omega) _).far (by show w.heap.size + 1 ≠ w.heap.size + 1 + 1; omega) _).far (by show w.heap.size + 1 ≠ w.heap.size + 1 + 1; omega) _).far (by show w.heap.size + 1 ≠ w.heap.size + 1 + 1; omega) _
     ·exact ((((((HB3.out.setCell (Nat.le_add_right _ 2) _).setCell (Nat.le_add_right _ 2) _).setCell (Nat.le_add_right _ 2) _).setCell (Nat.le_add_right _ 2) _).setCell (Nat.le_add_right _ 2) _).setCell (Nat.le_add_right _ 2) _).setCell (Nat.le_add_right _ 2) _
    case measure => simp [intOf]; omega
   ·have hki : ¬ (k : Int) < es.length := by omega
    have hek : k = es.length := by omega
    subst hek
    obtain ⟨qs, g1, g2, g3, g4⟩ := HQ.out
    have HT := Lib.hid (show RdE wr (w.heap.size + 1 + 1) wr.heap.size (d' + 1) (.slice (some ⟨w.heap.size + 1 + 1, 0, none⟩) es.length es.length) (es.map gf) from by
     rw [← g1] at g3 g2
     rw [rowE_all] at g3
     have h := rdE_row (c := qs.length) g3 (Nat.le_refl _) (by omega) (fun p hp => (g4 p hp).more (Nat.le_refl _) (by omega))
     rw [g1, List.take_length] at g2
     rw [g2, g1] at h
     exact h)
    clear g2 g3 g4 HQ
    have e0 := HE.out.cell 0
    have e1 := HE.out.cell 1
    have e2 := HE.out.cell 2
    have e3 := HE.out.cell 3
    have e4 := HE.out.cell 4
    have e5 := HE.out.cell 5
    have e6 := HE.out.cell 6
    have f6 := HE.out.free 6
    have o0 := HO.out.cell 0
    have o1 := HO.out.cell 1
    have o2 := HO.out.cell 2
    have o3 := HO.out.cell 3
    have o4 := HO.out.cell 4
    have o5 := HO.out.cell 5
    have o6 := HO.out.cell 6
    have m0 := HO.out.free 0
    have m1 := HO.out.free 1
    have m2 := HO.out.free 2
    have m3 := HO.out.free 3
    have m4 := HO.out.free 4
    have m5 := HO.out.free 5
    have m6 := HO.out.free 6
    have HX := Lib.hid ((((((((HO.out.far (p := ⟨w.heap.size, 6, none⟩) (by show w.heap.size + 1 ≠ w.heap.size; omega) (.slice (some ⟨w.heap.size + 1 + 1, 0, none⟩) es.length es.length)).store 0 (.int .i64 op)).store 1 (.int .i64 n)).store 2 (.int .i64 k1)).store 3 (.int .i64 k2)).store 4 (.string s)).store 5 (.string nm)).store 6 (.slice (some ⟨w.heap.size + 1 + 1, 0, none⟩) es.length es.length))
    have HBR := Lib.hid hbr
    clear hbr HE HO
    go_wp2
    (try simp only [Exit.inBlock, Exit.then]); refine bodyPost_ret_by (results_cell_row1 (by rfl) _ _ (w.heap.size + 1) _ (by rfl) (load_ex HX.out)) ?_ ?_; (focus rfl); refine ⟨_, rfl, ?_, ?_⟩
    ·simp only [World.size_setCell]
     refine RdE.more (Nat.le_refl _) (show w.heap.size ≤ w.heap.size + 1 + 1 by omega) ?_
     exact ((((((((HT.out.far (p := ⟨w.heap.size, 6, none⟩) (by show w.heap.size < _; omega)).far (by show w.heap.size + 1 < _; omega)).far (by show w.heap.size + 1 < _; omega)).far (by show w.heap.size + 1 < _; omega)).far (by show w.heap.size + 1 < _; omega)).far (by show w.heap.size + 1 < _; omega)).far (by show w.heap.size + 1 < _; omega)).far (by show w.heap.size + 1 < _; omega))
    ·exact (((((((HBR.out.sc w.heap.size 6 _).setCell (Nat.le_succ _) _).setCell (Nat.le_succ _) _).setCell (Nat.le_succ _) _).setCell (Nat.le_succ _) _).setCell (Nat.le_succ _) _).setCell (Nat.le_succ _) _).setCell (Nat.le_succ _) _
theorem withArgs_subst (P : Addr) (gf : Ex → Ex) (d d' : Nat) (e : Ex) (u : Value) (w : World) (L : Nat) (h : RdE w L w.heap.size (d + 1) u e.args)
  (hF : ∀ (a : Ex) (ua : Value) (W : World), Below w.heap.size w W → a ∈ e.args → RdE W L W.heap.size d ua a.args → Calls Tryz.prog 134 #[exV a ua, .pointer (some P)] W (RetX W d' (gf a))) :
  Calls Tryz.prog 133 #[exV e u, .func (.func 134) #[] #[.pointer (some P)]] w (RetX w (d' + 1) ⟨e.op, e.n, e.v, e.nm, e.args.map gf⟩) := by
 obtain ⟨op, n, ⟨k1, k2, s⟩, nm, es⟩ := e
 unfold exV
 dsimp only at h hF ⊢
 obtain ⟨A, c, rfl, hl, hc⟩ := h
 have HC := Lib.hid hc
 have HF := Lib.hid hF
 clear hc hF
 have HE0 := Lib.hid (show Own ((w.alloc (.cells #[.int .i64 op, .int .i64 n, .int .i64 k1, .int .i64 k2, .string s, .string nm, .slice A es.length c] 26)).alloc (.cells #[.int .i64 0, .int .i64 0, .int .i64 0, .int .i64 0, .string ⟨#[]⟩, .string ⟨#[]⟩, .slice none 0 0] 26)) w.heap.size 26 #[.int .i64 op, .int .i64 n, .int .i64 k1, .int .i64 k2, .string s, .string nm, .slice A es.length c] from (Own.new w _ _).alloc _)
 have HO0 := Lib.hid (show Own ((w.alloc (.cells #[.int .i64 op, .int .i64 n, .int .i64 k1, .int .i64 k2, .string s, .string nm, .slice A es.length c] 26)).alloc (.cells #[.int .i64 0, .int .i64 0, .int .i64 0, .int .i64 0, .string ⟨#[]⟩, .string ⟨#[]⟩, .slice none 0 0] 26)) (w.heap.size + 1) 26 #[.int .i64 0, .int .i64 0, .int .i64 0, .int .i64 0, .string ⟨#[]⟩, .string ⟨#[]⟩, .slice none 0 0] from Va.own_two _)
 have HB0 := Lib.hid (show Below w.heap.size w ((w.alloc (.cells #[.int .i64 op, .int .i64 n, .int .i64 k1, .int .i64 k2, .string s, .string nm, .slice A es.length c] 26)).alloc (.cells #[.int .i64 0, .int .i64 0, .int .i64 0, .int .i64 0, .string ⟨#[]⟩, .string ⟨#[]⟩, .slice none 0 0] 26)) from (bel_mk w _).trans ((bel_mk _ _).mono (by simp)))
 by_cases hz : es.length = 0
 ·obtain rfl := List.eq_nil_of_length_eq_zero hz
  dsimp only [List.length_nil, List.map_nil] at *
  clear hz hl
  go_enter Tryz.func133, Tryz.ntmps133
  go_wp2_with fail
  go_loopw [19] (fun i wr => i = .int .i64 0 ∧ Hid (Own wr w.heap.size 26 #[.int .i64 op, .int .i64 n, .int .i64 k1, .int .i64 k2, .string s, .string nm, .slice A 0 c]) ∧ Hid (Own wr (w.heap.size + 1) 26 #[.int .i64 0, .int .i64 0, .int .i64 0, .int .i64 0, .string ⟨#[]⟩, .string ⟨#[]⟩, .slice none 0 0]) ∧ Below w.heap.size w wr) (fun i _ => 0)
  case atStart => exact ⟨rfl, HE0, HO0, HB0.out⟩
  case round =>
   clear HE0 HO0 HB0
   obtain ⟨rfl, HE, HO, hbr⟩ := hrel
   have HT := Lib.hid (show RdE wr (w.heap.size + 1 + 1) wr.heap.size (d' + 1) (.slice none 0 0) [] from ⟨none, 0, rfl, by simp, fun k e hk => by simp at hk⟩)
   have e0 := HE.out.cell 0
   have e1 := HE.out.cell 1
   have e2 := HE.out.cell 2
   have e3 := HE.out.cell 3
   have e4 := HE.out.cell 4
   have e5 := HE.out.cell 5
   have e6 := HE.out.cell 6
   have f6 := HE.out.free 6
   have o0 := HO.out.cell 0
   have o1 := HO.out.cell 1
   have o2 := HO.out.cell 2
   have o3 := HO.out.cell 3
   have o4 := HO.out.cell 4
   have o5 := HO.out.cell 5
   have o6 := HO.out.cell 6
   have m0 := HO.out.free 0
   have m1 := HO.out.free 1
   have m2 := HO.out.free 2
   have m3 := HO.out.free 3
   have m4 := HO.out.free 4
   have m5 := HO.out.free 5
   have m6 := HO.out.free 6
   have HX := Lib.hid ((((((((HO.out.far (p := ⟨w.heap.size, 6, none⟩) (by show w.heap.size + 1 ≠ w.heap.size; omega) (.slice none 0 0)).store 0 (.int .i64 op)).store 1 (.int .i64 n)).store 2 (.int .i64 k1)).store 3 (.int .i64 k2)).store 4 (.string s)).store 5 (.string nm)).store 6 (.slice none 0 0))
   have HBR := Lib.hid hbr
   clear hbr HE HO
   go_wp2
   (try simp only [Exit.inBlock, Exit.then]); refine bodyPost_ret_by (results_cell_row1 (by rfl) _ _ (w.heap.size + 1) _ (by rfl) (load_ex HX.out)) ?_ ?_; (focus rfl); refine ⟨_, rfl, ?_, ?_⟩
   ·simp only [World.size_setCell]
    refine RdE.more (Nat.le_refl _) (show w.heap.size ≤ w.heap.size + 1 + 1 by omega) ?_
    exact ((((((((HT.out.far (p := ⟨w.heap.size, 6, none⟩) (by show w.heap.size < _; omega)).far (by show w.heap.size + 1 < _; omega)).far (by show w.heap.size + 1 < _; omega)).far (by show w.heap.size + 1 < _; omega)).far (by show w.heap.size + 1 < _; omega)).far (by show w.heap.size + 1 < _; omega)).far (by show w.heap.size + 1 < _; omega)).far (by show w.heap.size + 1 < _; omega))
   ·exact (((((((HBR.out.sc w.heap.size 6 _).setCell (Nat.le_succ _) _).setCell (Nat.le_succ _) _).setCell (Nat.le_succ _) _).setCell (Nat.le_succ _) _).setCell (Nat.le_succ _) _).setCell (Nat.le_succ _) _).setCell (Nat.le_succ _) _
 ·have hgt : (0 : Int) < es.length := by omega
  have hmk := made_rowE ((w.alloc (.cells #[.int .i64 op, .int .i64 n, .int .i64 k1, .int .i64 k2, .string s, .string nm, .slice A es.length c] 26)).alloc (.cells #[.int .i64 0, .int .i64 0, .int .i64 0, .int .i64 0, .string ⟨#[]⟩, .string ⟨#[]⟩, .slice none 0 0] 26)) es.length hl
  simp only [World.size_alloc] at hmk
  have HE1 := Lib.hid (HE0.out.alloc (.cells (rowE [] es.length) 26))
  have HO1 := Lib.hid (HO0.out.alloc (.cells (rowE [] es.length) 26))
  have HR1 := Lib.hid (show Own (((w.alloc (.cells #[.int .i64 op, .int .i64 n, .int .i64 k1, .int .i64 k2, .string s, .string nm, .slice A es.length c] 26)).alloc (.cells #[.int .i64 0, .int .i64 0, .int .i64 0, .int .i64 0, .string ⟨#[]⟩, .string ⟨#[]⟩, .slice none 0 0] 26)).alloc (.cells (rowE [] es.length) 26)) (w.heap.size + 1 + 1) 26 (rowE [] es.length) from by have h := Own.new ((w.alloc (.cells #[.int .i64 op, .int .i64 n, .int .i64 k1, .int .i64 k2, .string s, .string nm, .slice A es.length c] 26)).alloc (.cells #[.int .i64 0, .int .i64 0, .int .i64 0, .int .i64 0, .string ⟨#[]⟩, .string ⟨#[]⟩, .slice none 0 0] 26)) 26 (rowE [] es.length); simp only [World.size_alloc] at h; exact h)
  have HB1 := Lib.hid (HB0.out.trans ((bel_mk ((w.alloc (.cells #[.int .i64 op, .int .i64 n, .int .i64 k1, .int .i64 k2, .string s, .string nm, .slice A es.length c] 26)).alloc (.cells #[.int .i64 0, .int .i64 0, .int .i64 0, .int .i64 0, .string ⟨#[]⟩, .string ⟨#[]⟩, .slice none 0 0] 26)) (.cells (rowE [] es.length) 26)).mono HB0.out.size))
  have d6 := HE0.out.cell 6
  have f6 := HE1.out.cell 6
  clear HE0 HO0 HB0 hz
  go_enter Tryz.func133, Tryz.ntmps133
  go_wp2_with fail
  clear hmk d6 f6
  go_loopw [19] (fun i wr => ∃ k : Nat, k ≤ es.length ∧ i = .int .i64 k ∧ Hid (∃ qs : List ExU, qs.length = k ∧ qs.map (·.1) = (es.take k).map gf ∧ Own wr (w.heap.size + 1 + 1) 26 (rowE qs es.length) ∧ ∀ q ∈ qs, RdE wr (w.heap.size + 3) wr.heap.size d' q.2 q.1.args) ∧ Hid (Own wr w.heap.size 26 #[.int .i64 op, .int .i64 n, .int .i64 k1, .int .i64 k2, .string s, .string nm, .slice A es.length c]) ∧ Hid (Own wr (w.heap.size + 1) 26 #[.int .i64 0, .int .i64 0, .int .i64 0, .int .i64 0, .string ⟨#[]⟩, .string ⟨#[]⟩, .slice none 0 0]) ∧ Below w.heap.size w wr) (fun i _ => es.length - (intOf i).toNat)
  case atStart => exact ⟨0, Nat.zero_le _, rfl, Lib.hid ⟨[], rfl, rfl, HR1.out, by simp⟩, HE1, HO1, HB1.out⟩
  case round =>
   clear HE1 HO1 HR1 HB1
   obtain ⟨k, hk, rfl, HQ, HE, HO, hbr⟩ := hrel
   have hbz := hbr.size
   by_cases hlt : k < es.length
   ·have hki : (k : Int) < es.length := by omega
    obtain ⟨ad, x, rfl, _, hab, hxc, hxr⟩ := HC.out k _ (List.getElem?_eq_getElem hlt)
    have htk : (es.take (k + 1)).map gf = (es.take k).map gf ++ [gf es[k]] := by rw [List.take_add_one, List.getElem?_eq_getElem hlt, List.map_append]; rfl
    have hmem := List.getElem_mem hlt
    generalize es[k] = y at *
    obtain ⟨A3, c3, rfl, hl3⟩ := hxr.slice
    obtain ⟨x0, x1, x2, x3, x4, x5, x6⟩ := hxc.below hbr (by rw [add_blk]; exact hab)
    have b2 := bel_mk wr (.cells (exA y (.slice A3 y.args.length c3)) 26)
    have HB2 := Lib.hid (hbr.trans (b2.mono hbz))
    have HCL := Lib.hid (HF.out y (.slice A3 y.args.length c3) (wr.alloc (.cells (exA y (.slice A3 y.args.length c3)) 26)) HB2.out hmem (hxr.step HB2.out (Nat.le_refl _)))
    have HY := Lib.hid (Own.new wr 26 (exA y (.slice A3 y.args.length c3)))
    have HE2 := Lib.hid (HE.out.below b2 HE.out.lt)
    have HO2 := Lib.hid (HO.out.below b2 HO.out.lt)
    have HQ2 := Lib.hid (show ∃ qs : List ExU, qs.length = k ∧ qs.map (·.1) = (es.take k).map gf ∧ Own (wr.alloc (.cells (exA y (.slice A3 y.args.length c3)) 26)) (w.heap.size + 1 + 1) 26 (rowE qs es.length) ∧ ∀ q ∈ qs, RdE (wr.alloc (.cells (exA y (.slice A3 y.args.length c3)) 26)) (w.heap.size + 3) (wr.alloc (.cells (exA y (.slice A3 y.args.length c3)) 26)).heap.size d' q.2 q.1.args from by
     obtain ⟨qs, h1, h2, h3, h4⟩ := HQ.out
     exact ⟨qs, h1, h2, h3.below b2 h3.lt, fun q hq => (h4 q hq).step b2 (Nat.le_refl _)⟩)
    have HTK := Lib.hid htk
    have y0 := HY.out.cell 0
    have y1 := HY.out.cell 1
    have y2 := HY.out.cell 2
    have y3 := HY.out.cell 3
    have y4 := HY.out.cell 4
    have y5 := HY.out.cell 5
    have y6 := HY.out.cell 6
    clear hxc hxr htk hmem b2 HE HO HQ
    unfold exA exV at *
    generalize gf y = r at *
    go_wp2_with fail
    with_reducible refine HCL.out.mono ?_
    rintro e w3 ⟨u3, rfl, hr3, hb3⟩
    have HE3 := Lib.hid (HE2.out.below hb3 HE2.out.lt)
    have HO3 := Lib.hid (HO2.out.below hb3 HO2.out.lt)
    have HB3 := Lib.hid (HB2.out.trans (hb3.mono HB2.out.size))
    obtain ⟨qs, g1, g2, g3, g4⟩ := HQ2.out
    have G3 := g3.below hb3 g3.lt
    have hs3 := HB3.out.size
    have HR3 := Lib.hid (hr3.more (Nat.le_refl _) (show w.heap.size + 3 ≤ _ from g3.lt))
    have HG4 := Lib.hid (fun q hq => (g4 q hq).step hb3 (Nat.le_refl _))
    subst g1
    have HG2 := Lib.hid g2
    have hqk : qs.length < es.length := hlt
    obtain ⟨r0, r1, ⟨r2, r3, r4⟩, r5, r6⟩ := r
    obtain ⟨A4, c4, rfl, hl4⟩ := hr3.slice
    have z0 : w3.cell? ⟨w.heap.size + 1 + 1, qs.length * 7, none⟩ = some (.int .i64 0) := (G3.cell (qs.length * 7)).trans (rowE_next qs es.length hqk 0 (by decide))
    have z1 : w3.cell? ⟨w.heap.size + 1 + 1, qs.length * 7 + 1, none⟩ = some (.int .i64 0) := (G3.cell (qs.length * 7 + 1)).trans (rowE_next qs es.length hqk 1 (by decide))
    have z2 : w3.cell? ⟨w.heap.size + 1 + 1, qs.length * 7 + 2, none⟩ = some (.int .i64 0) := (G3.cell (qs.length * 7 + 2)).trans (rowE_next qs es.length hqk 2 (by decide))
    have z3 : w3.cell? ⟨w.heap.size + 1 + 1, qs.length * 7 + 3, none⟩ = some (.int .i64 0) := (G3.cell (qs.length * 7 + 3)).trans (rowE_next qs es.length hqk 3 (by decide))
    have z4 : w3.cell? ⟨w.heap.size + 1 + 1, qs.length * 7 + 4, none⟩ = some (.string ⟨#[]⟩) := (G3.cell (qs.length * 7 + 4)).trans (rowE_next qs es.length hqk 4 (by decide))
    have z5 : w3.cell? ⟨w.heap.size + 1 + 1, qs.length * 7 + 5, none⟩ = some (.string ⟨#[]⟩) := (G3.cell (qs.length * 7 + 5)).trans (rowE_next qs es.length hqk 5 (by decide))
    have z6 : w3.cell? ⟨w.heap.size + 1 + 1, qs.length * 7 + 6, none⟩ = some (.slice none 0 0) := (G3.cell (qs.length * 7 + 6)).trans (rowE_next qs es.length hqk 6 (by decide))
    have j0 := G3.free (qs.length * 7)
    have j1 := G3.free (qs.length * 7 + 1)
    have j2 := G3.free (qs.length * 7 + 2)
    have j3 := G3.free (qs.length * 7 + 3)
    have j4 := G3.free (qs.length * 7 + 4)
    have j5 := G3.free (qs.length * 7 + 5)
    have j6 := G3.free (qs.length * 7 + 6)
    have HS := Lib.hid (((((((G3.store (qs.length * 7) (.int .i64 r0)).store (qs.length * 7 + 1) (.int .i64 r1)).store (qs.length * 7 + 2) (.int .i64 r2)).store (qs.length * 7 + 3) (.int .i64 r3)).store (qs.length * 7 + 4) (.string r4)).store (qs.length * 7 + 5) (.string r5)).store (qs.length * 7 + 6) (.slice A4 r6.length c4))
    have hset := rowE_set qs es.length (⟨r0, r1, (r2, r3, r4), r5, r6⟩, .slice A4 r6.length c4) hqk
    have HS2 := Lib.hid (hset ▸ HS.out)
    unfold exV
    dsimp only
    clear hr3 hb3 g2 g3 g4 G3 hset HS HQ2 y0 y1 y2 y3 y4 y5 y6 HCL
    go_wp2
    go_roundw
    case rel =>
     refine ⟨qs.length + 1, by omega, by go_num, Lib.hid ⟨qs ++ [(⟨r0, r1, (r2, r3, r4), r5, r6⟩, .slice A4 r6.length c4)], by simp, ?_, HS2.out, ?_⟩, Lib.hid ?_, Lib.hid ?_, ?_⟩
     ·rw [HTK.out, List.map_append, HG2.out]; rfl
     ·intro q hq
      simp only [World.size_setCell]
      rcases List.mem_append.1 hq with hq | hq
      ·exact (((((((HG4.out q hq).far (by show w.heap.size + 1 + 1 < _; omega)).far (by show w.heap.size + 1 + 1 < _; omega)).far (by show w.heap.size + 1 + 1 < _; omega)).far (by show w.heap.size + 1 + 1 < _; omega)).far (by show w.heap.size + 1 + 1 < _; omega)).far (by show w.heap.size + 1 + 1 < _; omega)).far (by show w.heap.size + 1 + 1 < _; omega)
      ·rw [List.mem_singleton.1 hq]
       exact ((((((HR3.out.far (by show w.heap.size + 1 + 1 < _; omega)).far (by show w.heap.size + 1 + 1 < _; omega)).far (by show w.heap.size + 1 + 1 < _; omega)).far (by show w.heap.size + 1 + 1 < _; omega)).far (by show w.heap.size + 1 + 1 < _; omega)).far (by show w.heap.size + 1 + 1 < _; omega)).far (by show w.heap.size + 1 + 1 < _; omega)
     ·exact ((((((HE3.out.far (by show w.heap.size ≠ w.heap.size + 1 + 1; omega) _).far (by show w.heap.size ≠ w.heap.size + 1 + 1; omega) _).far (by show w.heap.size ≠ w.heap.size + 1 + 1; omega) _).far (by show w.heap.size ≠ w.heap.size + 1 + 1; omega) _).far (by show w.heap.size ≠ w.heap.size + 1 + 1; omega) _).far (by show w.heap.size ≠ w.heap.size + 1 + 1; omega) _).far (by show w.heap.size ≠ w.heap.size + 1 + 1; omega) _
     ·exact ((((((HO3.out.far (by show w.heap.size + 1 ≠ w.heap.size + 1 + 1; omega) _).far (by show w.heap.size + 1 ≠ w.heap.size + 1 + 1; omega) _).far (by show w.heap.size + 1 ≠ w.heap.size + 1 + 1; omega) _).far (by show w.heap.size + 1 ≠ w.heap.size + 1 + 1; omega) _).far (by show w.heap.size + 1 ≠ w.heap.size + 1 + 1; omega) _).far (by show w.heap.size + 1 ≠ w.heap.size + 1 + 1; omega) _).far (by show w.heap.size + 1 ≠ w.heap.size + 1 + 1; omega) _
     ·exact ((((((HB3.out.setCell (Nat.le_add_right _ 2) _).setCell (Nat.le_add_right _ 2) _).setCell (Nat.le_add_right _ 2) _).setCell (Nat.le_add_right _ 2) _).setCell (Nat.le_add_right _ 2) _).setCell (Nat.le_add_right _ 2) _).setCell (Nat.le_add_right _ 2) _
    case measure => simp [intOf]; omega
   ·have hki : ¬ (k : Int) < es.length := by omega
    have hek : k = es.length := by omega
    subst hek
    obtain ⟨qs, g1, g2, g3, g4⟩ := HQ.out
    have HT := Lib.hid (show RdE wr (w.heap.size + 1 + 1) wr.heap.size (d' + 1) (.slice (some ⟨w.heap.size + 1 + 1, 0, none⟩) es.length es.length) (es.map gf) from by
     rw [← g1] at g3 g2
     rw [rowE_all] at g3
     have h := rdE_row (c := qs.length) g3 (Nat.le_refl _) (by omega) (fun p hp => (g4 p hp).more (Nat.le_refl _) (by omega))
     rw [g1, List.take_length] at g2
     rw [g2, g1] at h
     exact h)
    clear g2 g3 g4 HQ
    have e0 := HE.out.cell 0
    have e1 := HE.out.cell 1
    have e2 := HE.out.cell 2
    have e3 := HE.out.cell 3
    have e4 := HE.out.cell 4
    have e5 := HE.out.cell 5
    have e6 := HE.out.cell 6
    have f6 := HE.out.free 6
    have o0 := HO.out.cell 0
    have o1 := HO.out.cell 1
    have o2 := HO.out.cell 2
    have o3 := HO.out.cell 3
    have o4 := HO.out.cell 4
    have o5 := HO.out.cell 5
    have o6 := HO.out.cell 6
    have m0 := HO.out.free 0
    have m1 := HO.out.free 1
    have m2 := HO.out.free 2
    have m3 := HO.out.free 3
    have m4 := HO.out.free 4
    have m5 := HO.out.free 5
    have m6 := HO.out.free 6
    have HX := Lib.hid ((((((((HO.out.far (p := ⟨w.heap.size, 6, none⟩) (by show w.heap.size + 1 ≠ w.heap.size; omega) (.slice (some ⟨w.heap.size + 1 + 1, 0, none⟩) es.length es.length)).store 0 (.int .i64 op)).store 1 (.int .i64 n)).store 2 (.int .i64 k1)).store 3 (.int .i64 k2)).store 4 (.string s)).store 5 (.string nm)).store 6 (.slice (some ⟨w.heap.size + 1 + 1, 0, none⟩) es.length es.length))
    have HBR := Lib.hid hbr
    clear hbr HE HO
    go_wp2
    (try simp only [Exit.inBlock, Exit.then]); refine bodyPost_ret_by (results_cell_row1 (by rfl) _ _ (w.heap.size + 1) _ (by rfl) (load_ex HX.out)) ?_ ?_; (focus rfl); refine ⟨_, rfl, ?_, ?_⟩
    ·simp only [World.size_setCell]
     refine RdE.more (Nat.le_refl _) (show w.heap.size ≤ w.heap.size + 1 + 1 by omega) ?_
     exact ((((((((HT.out.far (p := ⟨w.heap.size, 6, none⟩) (by show w.heap.size < _; omega)).far (by show w.heap.size + 1 < _; omega)).far (by show w.heap.size + 1 < _; omega)).far (by show w.heap.size + 1 < _; omega)).far (by show w.heap.size + 1 < _; omega)).far (by show w.heap.size + 1 < _; omega)).far (by show w.heap.size + 1 < _; omega)).far (by show w.heap.size + 1 < _; omega))
    ·exact (((((((HBR.out.sc w.heap.size 6 _).setCell (Nat.le_succ _) _).setCell (Nat.le_succ _) _).setCell (Nat.le_succ _) _).setCell (Nat.le_succ _) _).setCell (Nat.le_succ _) _).setCell (Nat.le_succ _) _).setCell (Nat.le_succ _) _
theorem pClone_any : ∀ (d : Nat) (e : Ex) (u : Value) (w : World) (L : Nat), RdE w L w.heap.size d u e.args → Calls Tryz.prog 132 #[exV e u] w (RetX w d e)
 | 0, _, _, _, _, h => h.elim
 | d + 1, e, u, w, L, h => by
  have IH := pClone_any d
  have hu := h
  obtain ⟨op, n, ⟨k1, k2, s⟩, nm, es⟩ := e
  dsimp only at h hu
  obtain ⟨A, c, rfl, _, _⟩ := hu
  have HO1 := Lib.hid (show Own ((w.alloc (.cells #[.int .i64 op, .int .i64 n, .int .i64 k1, .int .i64 k2, .string s, .string nm, .slice A es.length c] 26)).alloc (.cells #[.int .i64 0, .int .i64 0, .int .i64 0, .int .i64 0, .string ⟨#[]⟩, .string ⟨#[]⟩, .slice none 0 0] 26)) (w.heap.size + 1) 26 #[.int .i64 0, .int .i64 0, .int .i64 0, .int .i64 0, .string ⟨#[]⟩, .string ⟨#[]⟩, .slice none 0 0] from Va.own_two _)
  have HB1 := Lib.hid (show Below w.heap.size w ((w.alloc (.cells #[.int .i64 op, .int .i64 n, .int .i64 k1, .int .i64 k2, .string s, .string nm, .slice A es.length c] 26)).alloc (.cells #[.int .i64 0, .int .i64 0, .int .i64 0, .int .i64 0, .string ⟨#[]⟩, .string ⟨#[]⟩, .slice none 0 0] 26)) from (bel_mk w _).trans ((bel_mk _ _).mono (by simp)))
  have HC := Lib.hid (withArgs_clone id d d ⟨op, n, (k1, k2, s), nm, es⟩ (.slice A es.length c) _ L (h.step HB1.out (Nat.le_refl _)) (fun a ua W _ _ hr => IH a ua W L hr))
  rw [show es.map id = es from List.map_id es] at HC
  clear h IH
  unfold exV at *
  dsimp only at *
  go_enter Tryz.func132, Tryz.ntmps132
  go_wp2_with fail
  with_reducible refine HC.out.mono ?_
  rintro e w3 ⟨u3, rfl, hr3, hb3⟩
  have HO3 := Lib.hid (HO1.out.below hb3 HO1.out.lt)
  have HB3 := Lib.hid (HB1.out.trans (hb3.mono HB1.out.size))
  have HT := Lib.hid (hr3.more (Nat.le_refl _) (show w.heap.size + 2 ≤ _ from HO1.out.lt))
  generalize hrr : (⟨op, n, (k1, k2, s), nm, es⟩ : Ex) = r at *
  obtain ⟨r0, r1, ⟨r2, r3, r4⟩, r5, r6⟩ := r
  obtain ⟨A4, c4, rfl, hl4⟩ := hr3.slice
  unfold exV
  dsimp only
  have o0 := HO3.out.cell 0
  have o1 := HO3.out.cell 1
  have o2 := HO3.out.cell 2
  have o3 := HO3.out.cell 3
  have o4 := HO3.out.cell 4
  have o5 := HO3.out.cell 5
  have o6 := HO3.out.cell 6
  have m0 := HO3.out.free 0
  have m1 := HO3.out.free 1
  have m2 := HO3.out.free 2
  have m3 := HO3.out.free 3
  have m4 := HO3.out.free 4
  have m5 := HO3.out.free 5
  have m6 := HO3.out.free 6
  have HX := Lib.hid (((((((HO3.out.store 0 (.int .i64 r0)).store 1 (.int .i64 r1)).store 2 (.int .i64 r2)).store 3 (.int .i64 r3)).store 4 (.string r4)).store 5 (.string r5)).store 6 (.slice A4 r6.length c4))
  clear hr3 hb3 hrr
  go_wp2
  (try simp only [Exit.inBlock, Exit.then]); refine bodyPost_ret_by (results_cell_row1 (by rfl) _ _ (w.heap.size + 1) _ (by rfl) (load_ex HX.out)) ?_ ?_; (focus rfl); refine ⟨_, rfl, ?_, ?_⟩
  ·simp only [World.size_setCell]
   refine RdE.more (Nat.le_refl _) (show w.heap.size ≤ w.heap.size + 2 by omega) ?_
   exact (((((((HT.out).far (by show w.heap.size + 1 < _; omega)).far (by show w.heap.size + 1 < _; omega)).far (by show w.heap.size + 1 < _; omega)).far (by show w.heap.size + 1 < _; omega)).far (by show w.heap.size + 1 < _; omega)).far (by show w.heap.size + 1 < _; omega)).far (by show w.heap.size + 1 < _; omega)
  ·exact (((((((HB3.out).setCell (Nat.le_succ _) _).setCell (Nat.le_succ _) _).setCell (Nat.le_succ _) _).setCell (Nat.le_succ _) _).setCell (Nat.le_succ _) _).setCell (Nat.le_succ _) _).setCell (Nat.le_succ _) _
end Go.Proofs.YtdhemhmgenhmaaaGreat
