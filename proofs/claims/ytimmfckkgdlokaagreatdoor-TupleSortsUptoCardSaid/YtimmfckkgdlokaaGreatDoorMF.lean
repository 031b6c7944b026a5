import Derived.Test.YtimmfckkgdlokaaGreatDoorRows
import Derived.Test.YtimmfckkgdlokaaGreatDoorMV
import Derived.Test.YtimmfckkgdlokaaGreatDoorMT
import Derived.Test.YtimmfckkgdlokaaGreatDoorMC
import Derived.Test.YtimmfckkgdlokaaGreatDoorMA
import Derived.ProofKit
import Derived.LaidMore
import Derived.Lay
import Derived.OpenShut
import Derived.ChangeSlices
import Derived.Deep.Slices
import Derived.Deep.SlicePairs
import Derived.Lib.SmallJoins
/-
  What the statements' rows give at their first world: the variables as the program lays them (Env); a start that fits; how lists of rows, columns and numbers are opened. Conditions: none.
-/
namespace Go.Proofs.YtimmfckkgdlokaaGreatDoor
set_option maxRecDepth 100000
open Go.ChangeShapes Go.WideShapes Go.ChangeAt Go.RowKit Go.Joins Go.Deep

theorem gPow : Tryz.prog.globalNamed "internal/strconv.uint64pow10" = some 1 := by kernel_rfl
theorem tPow : (Tryz.prog.globals[1]?).map (·.type) = some 121 := by kernel_rfl
theorem cellsPow : Tryz.prog.cellsOf 121 = 20 := by kernel_rfl
theorem cellsU64 : Tryz.prog.cellsOf 91 = 1 := by kernel_rfl
def laid5 : List (String × DataW Unit) := [("math/bits.deBruijn32tab", Rows.laid_math_bits_deBruijn32tab), ("math/bits.deBruijn64tab", Rows.laid_math_bits_deBruijn64tab), ("internal/strconv.uint64pow10", Rows.laid_internal_strconv_uint64pow10), ("unicode/utf8.acceptRanges", Rows.laid_unicode_utf8_acceptRanges), ("unicode/utf8.first", Rows.laid_unicode_utf8_first)]
theorem lowSize {w : World} (h : w.ShapedOpen Tryz.prog) : Tryz.prog.globals.size ≤ w.heap.size := by
  rw [Va.globalsSize]
  have h0 : (((begin Tryz.prog (fun _ _ => 0) default).world.heap[5]?).bind Obj.row?).isSome = true := by kernel_rfl
  obtain ⟨⟨z, t⟩, hz⟩ := Option.isSome_iff_exists.1 h0
  obtain ⟨cs, hh, _⟩ := h.1 5 z t (by rw [Va.globalsSize]; decide) hz
  rcases Nat.lt_or_ge 5 w.heap.size with h1 | h1
  · exact h1
  · rw [Array.getElem?_eq_none h1] at hh; cases hh
theorem env_of {w : World} (hS : w.ShapedOpen Tryz.prog) (hL : laidMetH Tryz.prog laid5 w) : Va.Env w := by
  rw [MakeChecks.laidMetH_plain _ _ _ (by kernel_rfl)] at hL
  refine ⟨lowSize hS, ?_, Tryz.laysM143.s1_3 w hS⟩
  obtain ⟨ps, ⟨g0, t0, cs0, f0, p0, q0, hg0, ht0, hv0, hd0, ⟨g1, t1, cs1, f1, p1, q1, hg1, ht1, hv1, hd1, ⟨g2, t2, cs2, f2, p2, q2, hg2, ht2, hv2, hd2, _, _⟩, _⟩, _⟩, _, _⟩ := hL
  obtain rfl := Option.some.inj (gPow.symm.trans hg2)
  obtain rfl := Option.some.inj (tPow.symm.trans ht2)
  unfold Lib.TabIs
  rw [hv2, ← Lib.cells_of_tab (k := .u64) (zs := Lib.pow10Tab) Tryz.underlying121 Tryz.underlying91 cellsU64 cellsPow hd2]
set_option maxRecDepth 1000000 in
theorem start_met (os : Os) (args : Array Value) : laidMetH Tryz.prog laid5 ((World.laidAll Tryz.prog os laid5).forCall (fun _ _ => 0) ⟨#[], args, []⟩).memory := by
  rw [MakeChecks.laidMetH_plain _ _ _ (by kernel_rfl)]
  exact laidMet_laidAll _ (by kernel_rfl) (by kernel_rfl)
set_option maxRecDepth 1000000 in
theorem start_shaped (os : Os) : (World.laidAll Tryz.prog os laid5).Shaped Tryz.prog := World.shaped_of_ZipB (by kernel_rfl) (by kernel_rfl)

theorem szL_one : ∀ (l : List Vl), ∀ p ∈ l, p.2.2.size ≤ szL l
  | [], p, hp => by cases hp
  | q :: l, p, hp => by
    unfold szL
    simp only [List.map_cons, List.sum_cons]
    rcases List.mem_cons.1 hp with rfl | hp
    · omega
    · have := szL_one l p hp
      unfold szL at this
      omega
theorem cellsBool : Tryz.prog.cellsOf 4 = 1 := by kernel_rfl
theorem cellsOrd : Tryz.prog.cellsOf 34 = 2 := by kernel_rfl
theorem cellsRow : Tryz.prog.cellsOf 32 = 1 := by kernel_rfl
section
variable {H : Type} {enc : TypeId × Value → H} {W : World} {base : Nat}
theorem open_intsU {v : Value} {d : DataW H} {p : List MemPlace} (hv : Value.okWide Tryz.prog W .any base 37 v) (h : DataW.Trod enc Tryz.prog W 0 (fun _ => true) true 37 v d p) :
    ∃ zs : List Int, RdI W 0 W.heap.size v zs := by
  have hml := maxLen_le
  obtain ⟨a0, len0, cap0, rfl⟩ := okWide_slice Tryz.underlying37 hv
  obtain ⟨fuel, hf⟩ := h
  rcases ChangeShapes.open_ints Tryz.underlying37 Tryz.underlying3 cellsInt1 hf with ⟨hcs, _⟩ | ⟨a, len, cap, zs, hcs, _, hl, hm, hzl, _, hx, hwf⟩
  · simp only [Value.cells, List.cons.injEq, and_true] at hcs
    injection hcs with e1 e2 e3
    subst e1 e2 e3
    exact ⟨[], ⟨none, 0, rfl, by simp, by simp⟩⟩
  · simp only [Value.cells, List.cons.injEq, and_true] at hcs
    injection hcs with e1 e2 e3
    subst e1 e2 e3
    rw [if_pos rfl] at hzl
    refine ⟨zs.take len0, some a, cap0, by rw [List.length_take]; congr 1; omega, by rw [List.length_take]; omega, fun k z hk => ?_⟩
    obtain ⟨hk1, hk2⟩ := List.getElem?_eq_some_iff.1 hk
    rw [List.length_take] at hk1
    have hc := hx k (by omega)
    have hb := cell_lt hc
    rw [add_block] at hb
    refine ⟨a, rfl, Nat.zero_le _, hb, ?_⟩
    rw [hc, List.getD_eq_getElem?_getD, List.getElem?_eq_getElem (by omega), ← hk2, List.getElem_take]
    rfl
set_option maxRecDepth 100000 in
theorem open_ords {v : Value} {d : DataW H} {p : List MemPlace} (hv : Value.okWide Tryz.prog W .any base 35 v) (h : DataW.Trod enc Tryz.prog W 0 (fun _ => true) true 35 v d p) :
    ∃ o : List (Int × Bool), RdO W 0 W.heap.size v o := by
  obtain ⟨a0, len0, cap0, rfl⟩ := okWide_slice Tryz.underlying35 hv
  obtain ⟨fuel, hf⟩ := h
  rcases open_slice Tryz.underlying35 hf with ⟨hcs, _⟩ | ⟨a, len, cap, m, n, D, Pl, hcs, _, hl, hm, hmm, hxx, hx⟩
  · simp only [Value.cells, List.cons.injEq, and_true] at hcs
    injection hcs with e1 e2 e3
    subst e1 e2 e3
    exact ⟨[], ⟨none, 0, rfl, by simp, by simp⟩⟩
  · simp only [Value.cells, List.cons.injEq, and_true] at hcs
    injection hcs with e1 e2 e3
    subst e1 e2 e3
    rw [if_pos rfl] at hmm
    subst hmm
    have hml := maxLen_le
    have each : ∀ i, i < len0 → ∃ q : Int × Bool, W.cell? (a.add (i * 2)) = some (.int .i64 q.1) ∧ W.cell? ⟨(a.add (i * 2)).block, (a.add (i * 2)).off + 1, none⟩ = some (.bool q.2) := by
      intro i hi
      obtain ⟨cs', hc, ht⟩ := hx i (by omega)
      rw [cellsOrd] at hc
      obtain ⟨_, hcl, hat⟩ := World.cells?_some hc
      obtain ⟨xs, n', _, hxy, _, hxl, hfl⟩ := DataW.trod_struct Tryz.underlying34 ht
      match xs, hxl, cs', hcl with
      | [y0, y1], _, [v0, v1], _ =>
        have g0 := hfl 0 _ rfl
        have g1 := hfl 1 _ rfl
        simp [cellsInt1, cellsBool] at g0 g1
        have e0 := hat 0 (by omega)
        have e1 := hat 1 (by omega)
        rw [addr_add1] at e1
        obtain ⟨x, f0, hy0, _⟩ := DataW.trod_int Tryz.underlying3 g0
        obtain ⟨b, f1, hy1⟩ := DataW.trod_bool Tryz.underlying4 g1
        simp at f0 f1
        subst f0 f1
        exact ⟨(x, b), by simpa [show (a.add (i * 2)).add 0 = a.add (i * 2) by unfold Addr.add; simp] using e0, by simpa using e1⟩
    obtain ⟨q, hq⟩ := choose_lt each
    refine ⟨(List.range len0).map q, ⟨some a, _, by rw [List.length_map, List.length_range], by rw [List.length_map, List.length_range]; omega, fun k p hk => ?_⟩⟩
    obtain ⟨hk1, hk2⟩ := List.getElem?_eq_some_iff.1 hk
    simp at hk1 hk2
    subst hk2
    obtain ⟨g0, g1⟩ := hq k hk1
    have hb := cell_lt g0
    rw [add_block] at hb
    exact ⟨a, rfl, Nat.zero_le _, hb, g0, g1⟩
set_option maxRecDepth 100000 in
theorem open_valsC {fuel : Nat} {cs : List Value} {d : DataW H} {p : List MemPlace} (hf : DataW.trod enc Tryz.prog W 0 (fun _ => true) true fuel 32 cs = some (d, p)) :
    ∃ (v : Value) (ps : List Vl), cs = [v] ∧ RdV W 0 W.heap.size v ps ∧ (∀ n c, v = .slice none n c → c = 0) ∧ szL ps ≤ 3 * Rows.uptoBulk d ∧ ps.length ≤ Rows.uptoBulk d := by
  rcases open_slice Tryz.underlying32 hf with ⟨hcs, _⟩ | ⟨a, len, cap, m, n, D, Pl, hcs, _, hl, hm, hmm, hxx, hx⟩
  · subst hcs
    exact ⟨_, [], rfl, ⟨none, 0, rfl, by simp, by simp⟩, fun n c e => by injection e with _ _ e3; exact e3.symm, by simp [szL], by simp⟩
  · subst hcs
    rw [if_pos rfl] at hmm
    subst hmm
    have hml := maxLen_le
    have each : ∀ i, i < len → ∃ q : Vl, W.cell? (a.add (i * 3)) = some (.int .i64 q.1) ∧ W.cell? ⟨(a.add (i * 3)).block, (a.add (i * 3)).off + 1, none⟩ = some (.int .i64 q.2.1) ∧ W.cell? ⟨(a.add (i * 3)).block, (a.add (i * 3)).off + 2, none⟩ = some (.string q.2.2) ∧ q.2.2.size + 4 ≤ Rows.uptoBulk (D i) := by
      intro i hi
      obtain ⟨cs', hc, ht⟩ := hx i (by omega)
      rw [cellsVal] at hc
      obtain ⟨_, hcl, hat⟩ := World.cells?_some hc
      obtain ⟨xs, n', _, hxy, _, hxl, hfl⟩ := DataW.trod_struct Tryz.underlying28 ht
      match xs, hxl, cs', hcl with
      | [y0, y1, y2], _, [v0, v1, v2], _ =>
        have g0 := hfl 0 _ rfl
        have g1 := hfl 1 _ rfl
        have g2 := hfl 2 _ rfl
        simp [cellsInt1, cellsStr1] at g0 g1 g2
        have e0 := hat 0 (by omega)
        have e1 := hat 1 (by omega)
        have e2 := hat 2 (by omega)
        rw [addr_add1] at e1
        rw [addr_add2] at e2
        obtain ⟨x, f0, hy0, _⟩ := DataW.trod_int Tryz.underlying3 g0
        obtain ⟨y, f1, hy1, _⟩ := DataW.trod_int Tryz.underlying3 g1
        obtain ⟨s, f2, hy2, _⟩ := DataW.trod_string Tryz.underlying9 g2
        simp at f0 f1 f2
        subst f0 f1 f2
        refine ⟨(x, y, s), by simpa [show (a.add (i * 3)).add 0 = a.add (i * 3) by unfold Addr.add; simp] using e0, by simpa using e1, by simpa using e2, ?_⟩
        have hD := congrArg Prod.fst hxy
        have hD2 : D i = .agg [y0.1, y1.1, y2.1] := by simpa using hD
        rw [hD2, hy0, hy1, hy2]
        simp only [Rows.uptoBulk, Rows.uptoBulkAll]
        have := Lib.size_eq s
        omega
    obtain ⟨q, hq⟩ := choose_lt each
    have hd := congrArg Prod.fst hxx
    have hd' : d = .slice ((List.range len).map D) ((List.range (m - len)).map fun j => D (len + j)) := hd
    obtain ⟨hb1, hb2⟩ := bulk_vals q D (List.range len) (fun i hi => (hq i (List.mem_range.1 hi)).2.2.2)
    refine ⟨_, (List.range len).map q, rfl, ⟨some a, _, by rw [List.length_map, List.length_range], by rw [List.length_map, List.length_range]; omega, fun k p hk => ?_⟩, (by intro n c e; cases e), ?_, ?_⟩
    · obtain ⟨hk1, hk2⟩ := List.getElem?_eq_some_iff.1 hk
      simp at hk1 hk2
      subst hk2
      obtain ⟨g0, g1, g2, _⟩ := hq k hk1
      have hb := cell_lt g0
      rw [add_block] at hb
      exact ⟨a, rfl, Nat.zero_le _, hb, g0, g1, g2⟩
    · rw [hd']
      show _ ≤ 3 * (Rows.uptoBulkAll _ + Rows.uptoBulkAll _ + 1)
      omega
    · rw [hd', List.length_map]
      show _ ≤ (Rows.uptoBulkAll _ + Rows.uptoBulkAll _ + 1)
      omega
theorem bulk_one (D : Nat → DataW H) : ∀ l : List Nat, ∀ i ∈ l, Rows.uptoBulk (D i) ≤ Rows.uptoBulkAll (l.map D)
  | [], i, hi => by cases hi
  | j :: l, i, hi => by
    simp only [List.map_cons, Rows.uptoBulkAll]
    rcases List.mem_cons.1 hi with rfl | hi
    · omega
    · have := bulk_one D l i hi; omega
theorem bulk_len (D : Nat → DataW H) : ∀ l : List Nat, (∀ i ∈ l, 1 ≤ Rows.uptoBulk (D i)) → l.length ≤ Rows.uptoBulkAll (l.map D)
  | [], _ => by simp
  | j :: l, h => by
    have h1 := h j (List.mem_cons_self ..)
    have h2 := bulk_len D l (fun i hi => h i (List.mem_cons_of_mem _ hi))
    simp only [List.map_cons, Rows.uptoBulkAll, List.length_cons]
    omega
theorem bulk_pos (d : DataW H) : 1 ≤ Rows.uptoBulk d := by
  unfold Rows.uptoBulk
  split <;> omega
/-- Lists of rows: how they read; with the bulk, what bounds their lengths. -/
theorem open_rowsU {v : Value} {d : DataW H} {p : List MemPlace} (hv : Value.okWide Tryz.prog W .any base 22 v) (h : DataW.Trod enc Tryz.prog W 0 (fun _ => true) true 22 v d p) :
    ∃ rs : List (List Vl), RdR W 0 W.heap.size v rs ∧ (∀ n c, v = .slice none n c → c = 0) ∧ (∀ A n c, v = .slice A n c → n ≤ c) ∧ rs.length ≤ Rows.uptoBulk d ∧ ∀ r ∈ rs, r.length ≤ Rows.uptoBulk d := by
  obtain ⟨a0, len0, cap0, rfl⟩ := okWide_slice Tryz.underlying22 hv
  obtain ⟨fuel, hf⟩ := h
  rcases open_slice Tryz.underlying22 hf with ⟨hcs, _⟩ | ⟨a, len, cap, m, n, D, Pl, hcs, _, hl, hm, hmm, hxx, hx⟩
  · simp only [Value.cells, List.cons.injEq, and_true] at hcs
    injection hcs with e1 e2 e3
    subst e1 e2 e3
    exact ⟨[], ⟨none, 0, rfl, by simp, by simp⟩, fun n c e => by injection e with _ _ e3; exact e3.symm, fun A n c e => by injection e with _ e2 e3; omega, by simp, by simp⟩
  · simp only [Value.cells, List.cons.injEq, and_true] at hcs
    injection hcs with e1 e2 e3
    subst e1 e2 e3
    rw [if_pos rfl] at hmm
    subst hmm
    have hml := maxLen_le
    have each : ∀ i, i < len0 → ∃ q : Value × List Vl, W.cell? (a.add i) = some q.1 ∧ RdN W 0 W.heap.size q.1 q.2 ∧ q.2.length ≤ Rows.uptoBulk (D i) := by
      intro i hi
      obtain ⟨cs', hc, ht⟩ := hx i (by omega)
      rw [cellsRow, Nat.mul_one] at hc
      obtain ⟨_, hcl, hat⟩ := World.cells?_some hc
      match cs', hcl with
      | [v0], _ =>
        have e0 := hat 0 (by omega)
        obtain ⟨v1, ps, e1, h1, h2, _, h4⟩ := open_valsC ht
        injection e1 with e1 _
        subst e1
        exact ⟨(v0, ps), by simpa [show (a.add i).add 0 = a.add i by unfold Addr.add; simp] using e0, ⟨h1, h2⟩, h4⟩
    obtain ⟨q, hq⟩ := choose_lt each
    have hd := congrArg Prod.fst hxx
    have hd' : d = .slice ((List.range len0).map D) ((List.range (m - len0)).map fun j => D (len0 + j)) := hd
    refine ⟨(List.range len0).map fun i => (q i).2, ⟨some a, _, by rw [List.length_map, List.length_range], by rw [List.length_map, List.length_range]; omega, fun k p hk => ?_⟩, (by intro n c e; cases e), (by intro A n c e; injection e with _ e2 e3; omega), ?_, ?_⟩
    · obtain ⟨hk1, hk2⟩ := List.getElem?_eq_some_iff.1 hk
      simp at hk1 hk2
      subst hk2
      obtain ⟨g0, g1, _⟩ := hq k hk1
      have hb := cell_lt g0
      rw [add_block] at hb
      exact ⟨a, _, rfl, Nat.zero_le _, hb, g0, g1⟩
    · rw [hd', List.length_map]
      have := bulk_len D (List.range len0) (fun i _ => bulk_pos _)
      show _ ≤ (Rows.uptoBulkAll _ + Rows.uptoBulkAll _ + 1)
      omega
    · intro r hr
      rw [hd']
      rw [List.mem_map] at hr
      obtain ⟨i, hi, rfl⟩ := hr
      have h1 := (hq i (List.mem_range.1 hi)).2.2
      have h2 := bulk_one D (List.range len0) i hi
      show _ ≤ (Rows.uptoBulkAll _ + Rows.uptoBulkAll _ + 1)
      omega
end
end Go.Proofs.YtimmfckkgdlokaaGreatDoor
