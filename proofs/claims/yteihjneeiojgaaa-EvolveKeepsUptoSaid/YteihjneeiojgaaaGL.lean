import Derived.Test.YteihjneeiojgaaaSEoA
import Derived.Test.YteihjneeiojgaaaSScWb
import Derived.Deep.RegionHeld3
import Derived.WalkKit
import Derived.WalkSpells
import Derived.WalkLawsBesides
import Derived.Deep.QuietTactic
import Derived.BigQuiet
import Derived.Handy
import Derived.Lib.Hide
import Derived.Test.YteihjneeiojgaaaME
import Derived.Test.YteihjneeiojgaaaMC
import Derived.Test.YteihjneeiojgaaaMA
import Derived.Deep.Slices
import Derived.Test.YteihjneeiojgaaaSExUc
import Derived.Test.YteihjneeiojgaaaSExUe
/-
  The walk of the statement SchemaFinds. Conditions: the search's variable holds some number; lengths.
-/
namespace Go.Proofs.Yteihjneeiojgaaa
set_option maxRecDepth 100000
set_option linter.unusedVariables false
set_option linter.unusedSimpArgs false
open Go.RowKit

theorem colL_ok : ∀ (l : List Cl) (pre : List (List UInt8)), colL pre l = 0 → ∀ (k : Nat) (c : Cl), l[k]? = some c → nameS (nmC c) = true ∧ nmC c ∉ (l.take k).map nmC ∧ nmC c ∉ pre
  | [], _, _, _, _, h => by simp at h
  | c0 :: cs, pre, h, k, c, hk => by
    unfold colL at h
    by_cases h1 : nameS (nmC c0) = false
    · rw [if_pos h1] at h; exact absurd h (by decide)
    rw [if_neg h1] at h
    by_cases h2 : c0.2.1 < 1 ∨ 3 < c0.2.1
    · rw [if_pos h2] at h; exact absurd h (by decide)
    rw [if_neg h2] at h
    by_cases h3 : nmC c0 ∈ pre
    · rw [if_pos h3] at h; exact absurd h (by decide)
    rw [if_neg h3] at h
    cases k with
    | zero =>
      simp at hk
      subst hk
      exact ⟨by simpa using h1, by simp, h3⟩
    | succ k =>
      obtain ⟨g1, g2, g3⟩ := colL_ok cs (pre ++ [nmC c0]) h k c (by simpa using hk)
      rw [List.mem_append, List.mem_singleton] at g3
      refine ⟨g1, ?_, fun h => g3 (.inl h)⟩
      rw [List.take_succ_cons, List.map_cons, List.mem_cons]
      exact fun h => h.elim (fun h => g3 (.inr h)) g2
theorem colE_ok {cs : List Cl} (h : clsE cs = 0) : ∀ (k : Nat) (c : Cl), cs[k]? = some c → nameS (nmC c) = true ∧ findK c.1 0 cs = (k : Int) := by
  intro k c hk
  unfold clsE at h
  by_cases h1 : cs.length = 0 ∨ 12 < cs.length
  · rw [if_pos h1] at h; exact absurd h (by decide)
  rw [if_neg h1] at h
  obtain ⟨g1, g2, _⟩ := colL_ok cs [] h k c hk
  obtain ⟨f1, f2, f3⟩ := findK_has c.1 cs 0 k c hk rfl
  rw [Nat.zero_add] at f2 f3
  refine ⟨g1, ?_⟩
  have : ¬ findK c.1 0 cs < (k : Int) := fun h => g2 (f3.1 h)
  omega
theorem chkA_ok {nm : List UInt8} {cs : List Cl} {ks : List Int} {fs : List Fk} {d : Nat} {es : List Ex} (h : chkA nm cs ks fs d es = 0) : nameS nm = true ∧ clsE cs = 0 ∧ keyE cs ks = 0 := by
  unfold chkA at h
  by_cases h1 : nameS nm = false
  · rw [if_pos h1] at h; exact absurd h (by decide)
  rw [if_neg h1] at h
  by_cases h2 : clsE cs ≠ 0
  · rw [if_pos h2] at h; exact absurd h h2
  rw [if_neg h2] at h
  by_cases h3 : keyE cs ks ≠ 0
  · rw [if_pos h3] at h; exact absurd h h3
  exact ⟨by simpa using h1, by simpa using h2, by simpa using h3⟩
end Go.Proofs.Yteihjneeiojgaaa
/-
  Arguments that are expressions, opened, and how much they hold, as the second forms reckon it. Conditions: none.
-/
namespace Go.Proofs.Yteihjneeiojgaaa
set_option maxRecDepth 100000
set_option linter.unusedVariables false
set_option linter.unusedSimpArgs false
open Go.ChangeShapes Go.WideShapes Go.ChangeAt Go.RowKit Go.Joins Go.Deep

theorem cellsExp : Try.prog.cellsOf 65 = 7 := by kernel_rfl
theorem cellsExps : Try.prog.cellsOf 25 = 1 := by kernel_rfl
theorem cellsIntX : Try.prog.cellsOf 3 = 1 := by kernel_rfl
theorem cellsStrX : Try.prog.cellsOf 9 = 1 := by kernel_rfl
theorem cellsValX : Try.prog.cellsOf 38 = 3 := by kernel_rfl
theorem cell_ltX {w : World} {a : Addr} {v : Value} (h : w.cell? a = some v) : a.block < w.heap.size := World.block_lt_of_cell? w a h
theorem bulk_posX {H : Type} (d : DataW H) : 1 ≤ Rows.uptoBulk d := by
  unfold Rows.uptoBulk
  split <;> omega
theorem bulk_lenX {H : Type} (D : Nat → DataW H) : ∀ l : List Nat, l.length ≤ Rows.uptoBulkAll (l.map D)
  | [] => by simp
  | j :: l => by
    have h1 := bulk_posX (D j)
    have h2 := bulk_lenX D l
    simp only [List.map_cons, Rows.uptoBulkAll, List.length_cons]
    omega
theorem bulk_memX {H : Type} (D : Nat → DataW H) : ∀ (l : List Nat) (i : Nat), i ∈ l → Rows.uptoBulk (D i) ≤ Rows.uptoBulkAll (l.map D)
  | j :: l, i, h => by
    simp only [List.map_cons, Rows.uptoBulkAll]
    rcases List.mem_cons.1 h with rfl | h
    · omega
    · have := bulk_memX D l i h; omega
section
variable {H : Type} {enc : TypeId × Value → H} {W : World} {base : Nat}
set_option maxRecDepth 100000 in
/-- The own fields of an expression, and its arguments' slice. -/
theorem open_fields {fuel : Nat} {cs : List Value} {x : DataW H × List MemPlace} (hf : DataW.trod enc Try.prog W 0 (fun _ => true) true fuel 65 cs = some x) :
    ∃ (op n k m : Int) (s nm : ByteArray) (u : Value) (f : Nat) (dd : DataW H) (pp : List MemPlace), cs = [.int .i64 op, .int .i64 n, .int .i64 k, .int .i64 m, .string s, .string nm, u] ∧
      DataW.trod enc Try.prog W 0 (fun _ => true) true f 25 [u] = some (dd, pp) ∧ Rows.uptoBulk dd < Rows.uptoBulk x.1 := by
  obtain ⟨xs, n', _, hxy, hcl, hxl, hfl⟩ := DataW.trod_struct Try.underlying65 hf
  rw [cellsExp] at hcl
  match xs, hxl, cs, hcl with
  | [y0, y1, y2, y3, y4], _, [v0, v1, v2, v3, v4, v5, v6], _ =>
    have g0 := hfl 0 _ rfl
    have g1 := hfl 1 _ rfl
    have g2 := hfl 2 _ rfl
    have g3 := hfl 3 _ rfl
    have g4 := hfl 4 _ rfl
    simp [cellsIntX, cellsStrX, cellsValX, cellsExps] at g0 g1 g2 g3 g4
    obtain ⟨a0, e0, _⟩ := DataW.trod_int Try.underlying3 g0
    obtain ⟨a1, e1, _⟩ := DataW.trod_int Try.underlying3 g1
    obtain ⟨a3, e3, _⟩ := DataW.trod_string Try.underlying9 g3
    obtain ⟨zs, n2, _, _, hzc, hzl, hgl⟩ := DataW.trod_struct Try.underlying38 g2
    match zs, hzl with
    | [z0, z1, z2], _ =>
      have k0 := hgl 0 _ rfl
      have k1 := hgl 1 _ rfl
      have k2 := hgl 2 _ rfl
      simp [cellsIntX, cellsStrX] at k0 k1 k2
      obtain ⟨b0, f0, _⟩ := DataW.trod_int Try.underlying3 k0
      obtain ⟨b1, f1, _⟩ := DataW.trod_int Try.underlying3 k1
      obtain ⟨b2, f2, _⟩ := DataW.trod_string Try.underlying9 k2
      simp at e0 e1 e3 f0 f1 f2
      subst e0 e1 e3 f0 f1 f2
      obtain ⟨y4a, y4b⟩ := y4
      refine ⟨a0, a1, b0, b1, b2, a3, v6, n', y4a, y4b, rfl, g4, ?_⟩
      have hd : x.1 = .agg [y0.1, y1.1, y2.1, y3.1, y4a] := by simpa using congrArg Prod.fst hxy
      rw [hd]
      simp only [Rows.uptoBulk, Rows.uptoBulkAll]
      omega
set_option maxRecDepth 100000 in
theorem open_exprs : ∀ (N fuel : Nat) (u : Value) (d : DataW H) (p : List MemPlace), Rows.uptoBulk d ≤ N → N ≤ 1048576 → DataW.trod enc Try.prog W 0 (fun _ => true) true fuel 25 [u] = some (d, p) →
    ∃ es : List Ex, RdE W 0 W.heap.size N u es
  | 0, _, _, d, _, hN, _, _ => by have := bulk_posX d; omega
  | N + 1, fuel, u, d, p, hN, hbig, hf => by
    rcases open_slice Try.underlying25 hf with ⟨hcs, _⟩ | ⟨a, len, cap, m, n, D, Pl, hcs, _, hl, hm, hmm, hxx, hx⟩
    · injection hcs with hcs _
      subst hcs
      exact ⟨[], none, 0, rfl, by simp, by simp⟩
    · injection hcs with hcs _
      subst hcs
      rw [if_pos rfl] at hmm
      subst hmm
      have hd : d = .slice ((List.range len).map D) ((List.range (m - len)).map fun j => D (len + j)) := congrArg Prod.fst hxx
      have hlen : len ≤ Rows.uptoBulkAll ((List.range len).map D) := by have := bulk_lenX D (List.range len); rwa [List.length_range] at this
      have hsum : Rows.uptoBulkAll ((List.range len).map D) < Rows.uptoBulk d := by rw [hd]; simp only [Rows.uptoBulk]; omega
      have each : ∀ i, i < len → ∃ q : Ex × Value, ExC W (a.add (i * 7)) q.1 q.2 ∧ RdE W 0 W.heap.size N q.2 q.1.args := by
        intro i hi
        obtain ⟨cs', hc, ht⟩ := hx i (by omega)
        rw [cellsExp] at hc
        obtain ⟨_, hcl, hat⟩ := World.cells?_some hc
        obtain ⟨op, n1, k, m1, s, nm, w6, f, dd, pp, rfl, hg, hlt⟩ := open_fields ht
        have hi2 := bulk_memX D (List.range len) i (List.mem_range.2 hi)
        obtain ⟨es, hes⟩ := open_exprs N f w6 dd pp (by dsimp only at hlt; omega) (by omega) hg
        refine ⟨(⟨op, n1, (k, m1, s), nm, es⟩, w6), ?_, hes⟩
        have c0 := hat 0 (by omega)
        have c1 := hat 1 (by omega)
        have c2 := hat 2 (by omega)
        have c3 := hat 3 (by omega)
        have c4 := hat 4 (by omega)
        have c5 := hat 5 (by omega)
        have c6 := hat 6 (by omega)
        have ea : ∀ j, j ≠ 0 → (a.add (i * 7)).add j = ⟨(a.add (i * 7)).block, (a.add (i * 7)).off + j, none⟩ := fun j hj => by unfold Addr.add; rw [if_neg hj]
        rw [show (a.add (i * 7)).add 0 = a.add (i * 7) by unfold Addr.add; simp] at c0
        rw [ea 1 (by decide)] at c1
        rw [ea 2 (by decide)] at c2
        rw [ea 3 (by decide)] at c3
        rw [ea 4 (by decide)] at c4
        rw [ea 5 (by decide)] at c5
        rw [ea 6 (by decide)] at c6
        exact ⟨by simpa using c0, by simpa using c1, by simpa using c2, by simpa using c3, by simpa using c4, by simpa using c5, by simpa using c6⟩
      haveI : Inhabited (Ex × Value) := ⟨(⟨0, 0, (0, 0, ⟨#[]⟩), ⟨#[]⟩, []⟩, undef)⟩
      obtain ⟨q, hq⟩ := choose_lt each
      refine ⟨(List.range len).map fun i => (q i).1, some a, _, by rw [List.length_map, List.length_range], by rw [List.length_map, List.length_range]; omega, fun k e hk => ?_⟩
      obtain ⟨hk1, hk2⟩ := List.getElem?_eq_some_iff.1 hk
      simp at hk1 hk2
      subst hk2
      obtain ⟨g0, g1⟩ := hq k hk1
      have hb := cell_ltX g0.1
      rw [add_blk] at hb
      exact ⟨a, (q k).2, rfl, Nat.zero_le _, hb, g0, g1⟩
/-- An argument that is an expression. -/
theorem open_expU {v : Value} {d : DataW H} {p : List MemPlace} (hv : Value.okWide Try.prog W .any base 65 v) (h : DataW.Trod enc Try.prog W 0 (fun _ => true) true 65 v d p) (hN : Rows.uptoBulk d ≤ 1048576) :
    ∃ (e : Ex) (A : Option Addr) (c : Nat), v = exV e (.slice A e.args.length c) ∧ RdE W 0 W.heap.size 1048576 (.slice A e.args.length c) e.args := by
  obtain ⟨cs, rfl, hsz⟩ := okWide_struct Try.underlying65 hv
  obtain ⟨fuel, hf⟩ := h
  obtain ⟨op, n1, k, m1, s, nm, w6, f, dd, pp, hcs, hg, hlt⟩ := open_fields hf
  obtain ⟨es, hes⟩ := open_exprs (Rows.uptoBulk dd) f w6 dd pp (Nat.le_refl _) (by dsimp only at hlt; omega) hg
  obtain ⟨A, c, rfl, _⟩ := hes.slice
  obtain ⟨l⟩ := cs
  simp only [Value.cells] at hcs
  refine ⟨⟨op, n1, (k, m1, s), nm, es⟩, A, c, ?_, hes.up (by dsimp only at hlt; omega)⟩
  unfold exV
  dsimp only
  exact congrArg (fun l => Value.agg l.toArray) hcs
end
end Go.Proofs.Yteihjneeiojgaaa
/-
  How tables are opened in full, and how much they hold, as the second forms reckon it. Conditions: none.
-/
namespace Go.Proofs.Yteihjneeiojgaaa
set_option maxRecDepth 100000
set_option linter.unusedVariables false
set_option linter.unusedSimpArgs false
open Go.ChangeShapes Go.WideShapes Go.ChangeAt Go.RowKit Go.Joins Go.Deep

theorem cellsInts1 : Try.prog.cellsOf 23 = 1 := by kernel_rfl
section
variable {H : Type} {enc : TypeId × Value → H} {W : World} {base : Nat}
theorem bulk_len (D : Nat → DataW H) : ∀ l : List Nat, (∀ i ∈ l, 1 ≤ Rows.uptoBulk (D i)) → l.length ≤ Rows.uptoBulkAll (l.map D)
  | [], _ => by simp
  | j :: l, h => by
    have h1 := h j (List.mem_cons_self ..)
    have h2 := bulk_len D l (fun i hi => h i (List.mem_cons_of_mem _ hi))
    simp only [List.map_cons, Rows.uptoBulkAll, List.length_cons]
    omega
theorem bulk_pos (d : DataW H) : 1 ≤ Rows.uptoBulk d := by
  unfold Rows.uptoBulk
  split <;> omega
set_option maxRecDepth 100000 in
theorem open_colsB {fuel : Nat} {cs : List Value} {d : DataW H} {p : List MemPlace} (hf : DataW.trod enc Try.prog W 0 (fun _ => true) true fuel 22 cs = some (d, p)) :
    ∃ (v : Value) (ps : List Cl), cs = [v] ∧ RdK W 0 W.heap.size v ps ∧ ps.length ≤ Rows.uptoBulk d := by
  rcases open_slice Try.underlying22 hf with ⟨hcs, _⟩ | ⟨a, len, cap, m, n, D, Pl, hcs, _, hl, hm, hmm, hxx, hx⟩
  · subst hcs
    exact ⟨_, [], rfl, ⟨none, 0, rfl, by simp, by simp⟩, by simp⟩
  · obtain ⟨v, ps, e, h⟩ := open_cols hf
    refine ⟨v, ps, e, h, ?_⟩
    rw [if_pos rfl] at hmm
    subst hmm hcs
    injection e with e _
    subst e
    obtain ⟨A, c, e2, _⟩ := h
    injection e2 with _ e3 _
    have hd : d = .slice ((List.range len).map D) ((List.range (m - len)).map fun j => D (len + j)) := congrArg Prod.fst hxx
    rw [hd]
    have := bulk_len D (List.range len) (fun i _ => bulk_pos _)
    rw [List.length_range] at this
    show _ ≤ (Rows.uptoBulkAll _ + Rows.uptoBulkAll _ + 1)
    omega
set_option maxRecDepth 100000 in
theorem open_intsB {fuel : Nat} {cs : List Value} {d : DataW H} {p : List MemPlace} (hf : DataW.trod enc Try.prog W 0 (fun _ => true) true fuel 23 cs = some (d, p)) :
    ∃ (v : Value) (zs : List Int), cs = [v] ∧ RdI W 0 W.heap.size v zs ∧ zs.length ≤ Rows.uptoBulk d := by
  rcases open_slice Try.underlying23 hf with ⟨hcs, _⟩ | ⟨a, len, cap, m, n, D, Pl, hcs, _, hl, hm, hmm, hxx, hx⟩
  · subst hcs
    exact ⟨_, [], rfl, ⟨none, 0, rfl, by simp, by simp⟩, by simp⟩
  · subst hcs
    rw [if_pos rfl] at hmm
    subst hmm
    have hml := maxLen_le
    have each : ∀ i, i < len → ∃ q : Int, W.cell? (a.add i) = some (.int .i64 q) := by
      intro i hi
      obtain ⟨cs', hc, ht⟩ := hx i (by omega)
      rw [cellsInt1, Nat.mul_one] at hc
      obtain ⟨_, hcl, hat⟩ := World.cells?_some hc
      match cs', hcl with
      | [v0], _ =>
        have e0 := hat 0 (by omega)
        obtain ⟨x, f0, _⟩ := DataW.trod_int Try.underlying3 ht
        simp at f0
        subst f0
        exact ⟨x, by simpa [show (a.add i).add 0 = a.add i by unfold Addr.add; simp] using e0⟩
    obtain ⟨q, hq⟩ := choose_lt each
    have hd : d = .slice ((List.range len).map D) ((List.range (m - len)).map fun j => D (len + j)) := congrArg Prod.fst hxx
    refine ⟨_, (List.range len).map q, rfl, ⟨some a, _, by rw [List.length_map, List.length_range], by rw [List.length_map, List.length_range]; omega, fun k p hk => ?_⟩, ?_⟩
    · obtain ⟨hk1, hk2⟩ := List.getElem?_eq_some_iff.1 hk
      simp at hk1 hk2
      subst hk2
      have g0 := hq k hk1
      have hb := cell_lt g0
      rw [add_block] at hb
      exact ⟨a, rfl, Nat.zero_le _, hb, g0⟩
    · rw [hd, List.length_map]
      have := bulk_len D (List.range len) (fun i _ => bulk_pos _)
      show _ ≤ (Rows.uptoBulkAll _ + Rows.uptoBulkAll _ + 1)
      omega
set_option maxRecDepth 100000 in
theorem open_tabU {v : Value} {d : DataW H} {p : List MemPlace} (hv : Value.okWide Try.prog W .any base 27 v) (h : DataW.Trod enc Try.prog W 0 (fun _ => true) true 27 v d p) :
    ∃ (nm v1 v2 v3 v4 : Value) (cs : List Cl) (zs : List Int), v = .agg #[nm, v1, v2, v3, v4] ∧ RdK W 0 W.heap.size v1 cs ∧ RdI W 0 W.heap.size v2 zs ∧ cs.length ≤ Rows.uptoBulk d ∧ zs.length ≤ Rows.uptoBulk d := by
  obtain ⟨cs, rfl, hsz⟩ := okWide_struct Try.underlying27 hv
  rw [cellsTab] at hsz
  obtain ⟨l⟩ := cs
  match l, hsz with
  | [c0, c1, c2, c3, c4], _ =>
    obtain ⟨fuel, hf⟩ := h
    obtain ⟨xs, n', _, hxy, _, hxl, hfl⟩ := DataW.trod_struct Try.underlying27 hf
    match xs, hxl with
    | [y0, y1, y2, y3, y4], _ =>
      have g1 := hfl 1 _ rfl
      have g2 := hfl 2 _ rfl
      simp [cellsCols1, cellsInts1, Value.cells] at g1 g2
      obtain ⟨y1a, y1b⟩ := y1
      obtain ⟨y2a, y2b⟩ := y2
      obtain ⟨v1, ps, e1, h1, k1⟩ := open_colsB g1
      obtain ⟨v2, zs, e2, h2, k2⟩ := open_intsB g2
      injection e1 with e1 _
      injection e2 with e2 _
      subst e1 e2
      have hd : d = .agg [y0.1, y1a, y2a, y3.1, y4.1] := by simpa using congrArg Prod.fst hxy
      refine ⟨c0, c1, c2, c3, c4, ps, zs, rfl, h1, h2, ?_, ?_⟩
      · rw [hd]; simp only [Rows.uptoBulk, Rows.uptoBulkAll]; omega
      · rw [hd]; simp only [Rows.uptoBulk, Rows.uptoBulkAll]; omega
theorem cellsFor : Try.prog.cellsOf 54 = 2 := by kernel_rfl
theorem cellsFors1 : Try.prog.cellsOf 24 = 1 := by kernel_rfl
theorem cellsStrT : Try.prog.cellsOf 9 = 1 := by kernel_rfl
theorem cellsExps1 : Try.prog.cellsOf 25 = 1 := by kernel_rfl
set_option maxRecDepth 100000 in
theorem open_fors {fuel : Nat} {cs : List Value} {d : DataW H} {p : List MemPlace} (hf : DataW.trod enc Try.prog W 0 (fun _ => true) true fuel 24 cs = some (d, p)) :
    ∃ (v : Value) (fs : List Fk), cs = [v] ∧ RdF W 0 W.heap.size v fs := by
  rcases open_slice Try.underlying24 hf with ⟨hcs, _⟩ | ⟨a, len, cap, m, n, D, Pl, hcs, _, hl, hm, hmm, hxx, hx⟩
  · subst hcs
    exact ⟨_, [], rfl, none, 0, rfl, by simp, by simp⟩
  · subst hcs
    rw [if_pos rfl] at hmm
    subst hmm
    have hml := maxLen_le
    have each : ∀ i, i < len → ∃ q : Fk × Value, W.cell? (a.add (i * 2)) = some q.2 ∧ W.cell? ⟨(a.add (i * 2)).block, (a.add (i * 2)).off + 1, none⟩ = some (.string q.1.2) ∧ RdI W 0 W.heap.size q.2 q.1.1 := by
      intro i hi
      obtain ⟨cs', hc, ht⟩ := hx i (by omega)
      rw [cellsFor] at hc
      obtain ⟨_, hcl, hat⟩ := World.cells?_some hc
      obtain ⟨xs, n', _, hxy, hcl2, hxl, hfl⟩ := DataW.trod_struct Try.underlying54 ht
      match xs, hxl, cs', hcl with
      | [y0, y1], _, [v0, v1], _ =>
        have g0 := hfl 0 _ rfl
        have g1 := hfl 1 _ rfl
        simp [cellsInts1, cellsStrT] at g0 g1
        obtain ⟨y0a, y0b⟩ := y0
        obtain ⟨u, zs, e0, h0, _⟩ := open_intsB g0
        injection e0 with e0 _
        subst e0
        obtain ⟨a1, e1, _⟩ := DataW.trod_string Try.underlying9 g1
        simp at e1
        subst e1
        have c0 := hat 0 (by omega)
        have c1 := hat 1 (by omega)
        refine ⟨((zs, a1), v0), ?_, ?_, h0⟩
        · simpa [show (a.add (i * 2)).add 0 = a.add (i * 2) by unfold Addr.add; simp] using c0
        · rw [show (a.add (i * 2)).add 1 = ⟨(a.add (i * 2)).block, (a.add (i * 2)).off + 1, none⟩ by unfold Addr.add; rw [if_neg (by decide)]] at c1
          simpa using c1
    haveI : Inhabited (Fk × Value) := ⟨(([], ⟨#[]⟩), undef)⟩
    obtain ⟨q, hq⟩ := choose_lt each
    refine ⟨_, (List.range len).map fun i => (q i).1, rfl, some a, _, by rw [List.length_map, List.length_range], by rw [List.length_map, List.length_range]; omega, fun k f hk => ?_⟩
    obtain ⟨hk1, hk2⟩ := List.getElem?_eq_some_iff.1 hk
    simp at hk1 hk2
    subst hk2
    obtain ⟨g0, g1, g2⟩ := hq k hk1
    have hb := cell_lt g0
    rw [add_block] at hb
    exact ⟨a, (q k).2, rfl, Nat.zero_le _, hb, g0, g1, g2⟩
set_option maxRecDepth 100000 in
theorem open_tabF {v : Value} {d : DataW H} {p : List MemPlace} (hv : Value.okWide Try.prog W .any base 27 v) (h : DataW.Trod enc Try.prog W 0 (fun _ => true) true 27 v d p) (hN : Rows.uptoBulk d ≤ 1048576) :
    ∃ (nm : ByteArray) (v1 v2 v3 v4 : Value) (cs : List Cl) (zs : List Int) (fs : List Fk) (es : List Ex), v = .agg #[.string nm, v1, v2, v3, v4] ∧ RdK W 0 W.heap.size v1 cs ∧ RdI W 0 W.heap.size v2 zs ∧ RdF W 0 W.heap.size v3 fs ∧ RdE W 0 W.heap.size (1048575 + 1) v4 es ∧ cs.length ≤ Rows.uptoBulk d ∧ zs.length ≤ Rows.uptoBulk d := by
  obtain ⟨cs, rfl, hsz⟩ := okWide_struct Try.underlying27 hv
  rw [cellsTab] at hsz
  obtain ⟨l⟩ := cs
  match l, hsz with
  | [c0, c1, c2, c3, c4], _ =>
    obtain ⟨fuel, hf⟩ := h
    obtain ⟨xs, n', _, hxy, _, hxl, hfl⟩ := DataW.trod_struct Try.underlying27 hf
    match xs, hxl with
    | [y0, y1, y2, y3, y4], _ =>
      have g0 := hfl 0 _ rfl
      have g1 := hfl 1 _ rfl
      have g2 := hfl 2 _ rfl
      have g3 := hfl 3 _ rfl
      have g4 := hfl 4 _ rfl
      simp [cellsCols1, cellsInts1, cellsFors1, cellsStrT, cellsExps1, Value.cells] at g0 g1 g2 g3 g4
      obtain ⟨y1a, y1b⟩ := y1
      obtain ⟨y2a, y2b⟩ := y2
      obtain ⟨y3a, y3b⟩ := y3
      obtain ⟨y4a, y4b⟩ := y4
      obtain ⟨nm, e0, _⟩ := DataW.trod_string Try.underlying9 g0
      simp at e0
      subst e0
      obtain ⟨v1, ps, e1, h1, k1⟩ := open_colsB g1
      obtain ⟨v2, zs, e2, h2, k2⟩ := open_intsB g2
      obtain ⟨v3, fs, e3, h3⟩ := open_fors g3
      injection e1 with e1 _
      injection e2 with e2 _
      injection e3 with e3 _
      subst e1 e2 e3
      have hd : d = .agg [y0.1, y1a, y2a, y3a, y4a] := by simpa using congrArg Prod.fst hxy
      have hy4 : Rows.uptoBulk y4a ≤ 1048575 := by rw [hd] at hN; simp only [Rows.uptoBulk, Rows.uptoBulkAll] at hN; omega
      obtain ⟨es, h4⟩ := open_exprs (Rows.uptoBulk y4a) n' c4 y4a y4b (Nat.le_refl _) (by omega) g4
      refine ⟨nm, c1, c2, c3, c4, ps, zs, fs, es, rfl, h1, h2, h3, h4.up (by omega), ?_, ?_⟩
      · rw [hd]; simp only [Rows.uptoBulk, Rows.uptoBulkAll]; omega
      · rw [hd]; simp only [Rows.uptoBulk, Rows.uptoBulkAll]; omega
end
end Go.Proofs.Yteihjneeiojgaaa
/-
  How tables are opened with the lengths of all their lists. Conditions: none. (Written by mkScGc.py.)
-/
namespace Go.Proofs.Yteihjneeiojgaaa
set_option maxRecDepth 100000
set_option linter.unusedVariables false
set_option linter.unusedSimpArgs false
open Go.ChangeShapes Go.WideShapes Go.ChangeAt Go.RowKit Go.Joins Go.Deep

section
variable {H : Type} {enc : TypeId × Value → H} {W : World} {base : Nat}
set_option maxRecDepth 100000 in
theorem open_forsL {fuel : Nat} {cs : List Value} {d : DataW H} {p : List MemPlace} (hf : DataW.trod enc Try.prog W 0 (fun _ => true) true fuel 24 cs = some (d, p)) :
    ∃ (v : Value) (fs : List Fk), cs = [v] ∧ RdF W 0 W.heap.size v fs ∧ fs.length ≤ Rows.uptoBulk d ∧ ∀ f ∈ fs, f.1.length ≤ Rows.uptoBulk d := by
  rcases open_slice Try.underlying24 hf with ⟨hcs, _⟩ | ⟨a, len, cap, m, n, D, Pl, hcs, _, hl, hm, hmm, hxx, hx⟩
  · subst hcs
    exact ⟨_, [], rfl, ⟨none, 0, rfl, by simp, by simp⟩, by simp, by simp⟩
  · subst hcs
    rw [if_pos rfl] at hmm
    subst hmm
    have hml := maxLen_le
    have each : ∀ i, i < len → ∃ q : Fk × Value, W.cell? (a.add (i * 2)) = some q.2 ∧ W.cell? ⟨(a.add (i * 2)).block, (a.add (i * 2)).off + 1, none⟩ = some (.string q.1.2) ∧ RdI W 0 W.heap.size q.2 q.1.1 ∧ q.1.1.length ≤ Rows.uptoBulk (D i) := by
      intro i hi
      obtain ⟨cs', hc, ht⟩ := hx i (by omega)
      rw [cellsFor] at hc
      obtain ⟨_, hcl, hat⟩ := World.cells?_some hc
      obtain ⟨xs, n', _, hxy, hcl2, hxl, hfl⟩ := DataW.trod_struct Try.underlying54 ht
      match xs, hxl, cs', hcl with
      | [y0, y1], _, [v0, v1], _ =>
        have g0 := hfl 0 _ rfl
        have g1 := hfl 1 _ rfl
        simp [cellsInts1, cellsStrT] at g0 g1
        obtain ⟨y0a, y0b⟩ := y0
        obtain ⟨u, zs, e0, h0, hzl⟩ := open_intsB g0
        have hDi : D i = .agg [y0a, y1.1] := by simpa using congrArg Prod.fst hxy
        injection e0 with e0 _
        subst e0
        obtain ⟨a1, e1, _⟩ := DataW.trod_string Try.underlying9 g1
        simp at e1
        subst e1
        have c0 := hat 0 (by omega)
        have c1 := hat 1 (by omega)
        refine ⟨((zs, a1), v0), ?_, ?_, h0, by rw [hDi]; simp only [Rows.uptoBulk, Rows.uptoBulkAll]; omega⟩
        · simpa [show (a.add (i * 2)).add 0 = a.add (i * 2) by unfold Addr.add; simp] using c0
        · rw [show (a.add (i * 2)).add 1 = ⟨(a.add (i * 2)).block, (a.add (i * 2)).off + 1, none⟩ by unfold Addr.add; rw [if_neg (by decide)]] at c1
          simpa using c1
    haveI : Inhabited (Fk × Value) := ⟨(([], ⟨#[]⟩), undef)⟩
    obtain ⟨q, hq⟩ := choose_lt each
    have hd : d = .slice ((List.range len).map D) ((List.range (m - len)).map fun j => D (len + j)) := congrArg Prod.fst hxx
    have hbl : Rows.uptoBulkAll ((List.range len).map D) < Rows.uptoBulk d := by rw [hd]; simp only [Rows.uptoBulk]; omega
    refine ⟨_, (List.range len).map fun i => (q i).1, rfl, ⟨some a, _, by rw [List.length_map, List.length_range], by rw [List.length_map, List.length_range]; omega, fun k f hk => ?_⟩, ?_, ?_⟩
    rotate_left
    · rw [List.length_map, List.length_range]
      have := bulk_lenX D (List.range len)
      rw [List.length_range] at this
      omega
    · intro f hf
      obtain ⟨i, hi, rfl⟩ := List.mem_map.1 hf
      have h1 := (hq i (List.mem_range.1 hi)).2.2.2
      have h2 := bulk_memX D (List.range len) i hi
      omega
    obtain ⟨hk1, hk2⟩ := List.getElem?_eq_some_iff.1 hk
    simp at hk1 hk2
    subst hk2
    obtain ⟨g0, g1, g2, _⟩ := hq k hk1
    have hb := cell_lt g0
    rw [add_block] at hb
    exact ⟨a, (q k).2, rfl, Nat.zero_le _, hb, g0, g1, g2⟩
set_option maxRecDepth 100000 in
theorem open_tabL {v : Value} {d : DataW H} {p : List MemPlace} (hv : Value.okWide Try.prog W .any base 27 v) (h : DataW.Trod enc Try.prog W 0 (fun _ => true) true 27 v d p) (hN : Rows.uptoBulk d ≤ 1048576) :
    ∃ (nm : ByteArray) (v1 v2 v3 v4 : Value) (cs : List Cl) (zs : List Int) (fs : List Fk) (es : List Ex), v = .agg #[.string nm, v1, v2, v3, v4] ∧ RdK W 0 W.heap.size v1 cs ∧ RdI W 0 W.heap.size v2 zs ∧ RdF W 0 W.heap.size v3 fs ∧ RdE W 0 W.heap.size (1048575 + 1) v4 es ∧ cs.length ≤ Rows.uptoBulk d ∧ zs.length ≤ Rows.uptoBulk d ∧ fs.length ≤ Rows.uptoBulk d ∧ ∀ f ∈ fs, f.1.length ≤ Rows.uptoBulk d := by
  obtain ⟨cs, rfl, hsz⟩ := okWide_struct Try.underlying27 hv
  rw [cellsTab] at hsz
  obtain ⟨l⟩ := cs
  match l, hsz with
  | [c0, c1, c2, c3, c4], _ =>
    obtain ⟨fuel, hf⟩ := h
    obtain ⟨xs, n', _, hxy, _, hxl, hfl⟩ := DataW.trod_struct Try.underlying27 hf
    match xs, hxl with
    | [y0, y1, y2, y3, y4], _ =>
      have g0 := hfl 0 _ rfl
      have g1 := hfl 1 _ rfl
      have g2 := hfl 2 _ rfl
      have g3 := hfl 3 _ rfl
      have g4 := hfl 4 _ rfl
      simp [cellsCols1, cellsInts1, cellsFors1, cellsStrT, cellsExps1, Value.cells] at g0 g1 g2 g3 g4
      obtain ⟨y1a, y1b⟩ := y1
      obtain ⟨y2a, y2b⟩ := y2
      obtain ⟨y3a, y3b⟩ := y3
      obtain ⟨y4a, y4b⟩ := y4
      obtain ⟨nm, e0, _⟩ := DataW.trod_string Try.underlying9 g0
      simp at e0
      subst e0
      obtain ⟨v1, ps, e1, h1, k1⟩ := open_colsB g1
      obtain ⟨v2, zs, e2, h2, k2⟩ := open_intsB g2
      obtain ⟨v3, fs, e3, h3, k3, k4⟩ := open_forsL g3
      injection e1 with e1 _
      injection e2 with e2 _
      injection e3 with e3 _
      subst e1 e2 e3
      have hd : d = .agg [y0.1, y1a, y2a, y3a, y4a] := by simpa using congrArg Prod.fst hxy
      have hy4 : Rows.uptoBulk y4a ≤ 1048575 := by rw [hd] at hN; simp only [Rows.uptoBulk, Rows.uptoBulkAll] at hN; omega
      obtain ⟨es, h4⟩ := open_exprs (Rows.uptoBulk y4a) n' c4 y4a y4b (Nat.le_refl _) (by omega) g4
      refine ⟨nm, c1, c2, c3, c4, ps, zs, fs, es, rfl, h1, h2, h3, h4.up (by omega), ?_, ?_, ?_, fun f hf => ?_⟩
      · rw [hd]; simp only [Rows.uptoBulk, Rows.uptoBulkAll]; omega
      · rw [hd]; simp only [Rows.uptoBulk, Rows.uptoBulkAll]; omega
      · rw [hd]; simp only [Rows.uptoBulk, Rows.uptoBulkAll]; omega
      · have := k4 f hf
        rw [hd]; simp only [Rows.uptoBulk, Rows.uptoBulkAll]; omega
end
end Go.Proofs.Yteihjneeiojgaaa
/-
  Arguments that are expressions, opened: their numbers are ints, their columns are few. Conditions: none.
-/
namespace Go.Proofs.Yteihjneeiojgaaa
set_option maxRecDepth 100000
set_option linter.unusedVariables false
set_option linter.unusedSimpArgs false
open Go.ChangeShapes Go.WideShapes Go.ChangeAt Go.RowKit Go.Joins Go.Deep

/-- Every number of a column lies in the range of an int. -/
def okX : Nat → Ex → Prop
  | 0, _ => True
  | d + 1, e => (Lit.int .i64 e.n).wf = true ∧ ∀ a ∈ e.args, okX d a
theorem okX_mk {op n : Int} {v : Vl} {nm : ByteArray} {es : List Ex} (h : (Lit.int .i64 n).wf = true) (ho : ∀ m, ∀ e ∈ es, okX m e) : ∀ m, okX m ⟨op, n, v, nm, es⟩
  | 0 => trivial
  | m + 1 => ⟨h, ho m⟩
theorem colE_mk {op n : Int} {v : Vl} {nm : ByteArray} {es : List Ex} {b B : Nat} (h : b < B) (ho : ∀ m, (es.flatMap (colE m)).length ≤ b) : ∀ m, (colE m ⟨op, n, v, nm, es⟩).length ≤ B
  | 0 => Nat.zero_le _
  | m + 1 => by
    show (colH ⟨op, n, v, nm, es⟩ ++ es.flatMap (colE m)).length ≤ B
    have h1 := ho m
    have h2 : (colH ⟨op, n, v, nm, es⟩).length ≤ 1 := by unfold colH; split <;> simp
    rw [List.length_append]
    omega
theorem flat_bulk {H : Type} (D : Nat → DataW H) (q : Nat → Ex) (g : Ex → List Int) : ∀ l : List Nat, (∀ i ∈ l, (g (q i)).length ≤ Rows.uptoBulk (D i)) → ((l.map q).flatMap g).length ≤ Rows.uptoBulkAll (l.map D)
  | [], _ => by simp
  | j :: l, h => by
    have h1 := flat_bulk D q g l fun i hi => h i (List.mem_cons_of_mem _ hi)
    have h2 := h j List.mem_cons_self
    simp only [List.map_cons, Rows.uptoBulkAll, List.flatMap_cons, List.length_append]
    omega
section
variable {H : Type} {enc : TypeId × Value → H} {W : World} {base : Nat}
set_option maxRecDepth 100000 in
/-- The own fields of an expression, and its arguments' slice. -/
theorem open_fieldsC {fuel : Nat} {cs : List Value} {x : DataW H × List MemPlace} (hf : DataW.trod enc Try.prog W 0 (fun _ => true) true fuel 65 cs = some x) :
    ∃ (op n k m : Int) (s nm : ByteArray) (u : Value) (f : Nat) (dd : DataW H) (pp : List MemPlace), (Lit.int .i64 n).wf = true ∧ cs = [.int .i64 op, .int .i64 n, .int .i64 k, .int .i64 m, .string s, .string nm, u] ∧
      DataW.trod enc Try.prog W 0 (fun _ => true) true f 25 [u] = some (dd, pp) ∧ Rows.uptoBulk dd < Rows.uptoBulk x.1 := by
  obtain ⟨xs, n', _, hxy, hcl, hxl, hfl⟩ := DataW.trod_struct Try.underlying65 hf
  rw [cellsExp] at hcl
  match xs, hxl, cs, hcl with
  | [y0, y1, y2, y3, y4], _, [v0, v1, v2, v3, v4, v5, v6], _ =>
    have g0 := hfl 0 _ rfl
    have g1 := hfl 1 _ rfl
    have g2 := hfl 2 _ rfl
    have g3 := hfl 3 _ rfl
    have g4 := hfl 4 _ rfl
    simp [cellsIntX, cellsStrX, cellsValX, cellsExps] at g0 g1 g2 g3 g4
    obtain ⟨a0, e0, _⟩ := DataW.trod_int Try.underlying3 g0
    obtain ⟨a1, e1, _, hw1⟩ := DataW.trod_int Try.underlying3 g1
    obtain ⟨a3, e3, _⟩ := DataW.trod_string Try.underlying9 g3
    obtain ⟨zs, n2, _, _, hzc, hzl, hgl⟩ := DataW.trod_struct Try.underlying38 g2
    match zs, hzl with
    | [z0, z1, z2], _ =>
      have k0 := hgl 0 _ rfl
      have k1 := hgl 1 _ rfl
      have k2 := hgl 2 _ rfl
      simp [cellsIntX, cellsStrX] at k0 k1 k2
      obtain ⟨b0, f0, _⟩ := DataW.trod_int Try.underlying3 k0
      obtain ⟨b1, f1, _⟩ := DataW.trod_int Try.underlying3 k1
      obtain ⟨b2, f2, _⟩ := DataW.trod_string Try.underlying9 k2
      simp at e0 e1 e3 f0 f1 f2
      subst e0 e1 e3 f0 f1 f2
      obtain ⟨y4a, y4b⟩ := y4
      refine ⟨a0, a1, b0, b1, b2, a3, v6, n', y4a, y4b, hw1, rfl, g4, ?_⟩
      have hd : x.1 = .agg [y0.1, y1.1, y2.1, y3.1, y4a] := by simpa using congrArg Prod.fst hxy
      rw [hd]
      simp only [Rows.uptoBulk, Rows.uptoBulkAll]
      omega
set_option maxRecDepth 100000 in
theorem open_exprsC : ∀ (N fuel : Nat) (u : Value) (d : DataW H) (p : List MemPlace), Rows.uptoBulk d ≤ N → N ≤ 1048576 → DataW.trod enc Try.prog W 0 (fun _ => true) true fuel 25 [u] = some (d, p) →
    ∃ es : List Ex, RdE W 0 W.heap.size N u es ∧ (∀ m, ∀ e ∈ es, okX m e) ∧ ∀ m, (es.flatMap (colE m)).length ≤ Rows.uptoBulk d
  | 0, _, _, d, _, hN, _, _ => by have := bulk_posX d; omega
  | N + 1, fuel, u, d, p, hN, hbig, hf => by
    rcases open_slice Try.underlying25 hf with ⟨hcs, _⟩ | ⟨a, len, cap, m, n, D, Pl, hcs, _, hl, hm, hmm, hxx, hx⟩
    · injection hcs with hcs _
      subst hcs
      exact ⟨[], ⟨none, 0, rfl, by simp, by simp⟩, by simp, by simp⟩
    · injection hcs with hcs _
      subst hcs
      rw [if_pos rfl] at hmm
      subst hmm
      have hd : d = .slice ((List.range len).map D) ((List.range (m - len)).map fun j => D (len + j)) := congrArg Prod.fst hxx
      have hlen : len ≤ Rows.uptoBulkAll ((List.range len).map D) := by have := bulk_lenX D (List.range len); rwa [List.length_range] at this
      have hsum : Rows.uptoBulkAll ((List.range len).map D) < Rows.uptoBulk d := by rw [hd]; simp only [Rows.uptoBulk]; omega
      have each : ∀ i, i < len → ∃ q : Ex × Value, ExC W (a.add (i * 7)) q.1 q.2 ∧ RdE W 0 W.heap.size N q.2 q.1.args ∧ (∀ m, okX m q.1) ∧ ∀ m, (colE m q.1).length ≤ Rows.uptoBulk (D i) := by
        intro i hi
        obtain ⟨cs', hc, ht⟩ := hx i (by omega)
        rw [cellsExp] at hc
        obtain ⟨_, hcl, hat⟩ := World.cells?_some hc
        obtain ⟨op, n1, k, m1, s, nm, w6, f, dd, pp, hwn, rfl, hg, hlt⟩ := open_fieldsC ht
        have hi2 := bulk_memX D (List.range len) i (List.mem_range.2 hi)
        obtain ⟨es, hes, hok, hcl⟩ := open_exprsC N f w6 dd pp (by dsimp only at hlt; omega) (by omega) hg
        refine ⟨(⟨op, n1, (k, m1, s), nm, es⟩, w6), ?_, hes, fun m => okX_mk hwn hok m, fun m => colE_mk (Nat.lt_of_le_of_lt (Nat.le_refl _) hlt) hcl m⟩
        have c0 := hat 0 (by omega)
        have c1 := hat 1 (by omega)
        have c2 := hat 2 (by omega)
        have c3 := hat 3 (by omega)
        have c4 := hat 4 (by omega)
        have c5 := hat 5 (by omega)
        have c6 := hat 6 (by omega)
        have ea : ∀ j, j ≠ 0 → (a.add (i * 7)).add j = ⟨(a.add (i * 7)).block, (a.add (i * 7)).off + j, none⟩ := fun j hj => by unfold Addr.add; rw [if_neg hj]
        rw [show (a.add (i * 7)).add 0 = a.add (i * 7) by unfold Addr.add; simp] at c0
        rw [ea 1 (by decide)] at c1
        rw [ea 2 (by decide)] at c2
        rw [ea 3 (by decide)] at c3
        rw [ea 4 (by decide)] at c4
        rw [ea 5 (by decide)] at c5
        rw [ea 6 (by decide)] at c6
        exact ⟨by simpa using c0, by simpa using c1, by simpa using c2, by simpa using c3, by simpa using c4, by simpa using c5, by simpa using c6⟩
      haveI : Inhabited (Ex × Value) := ⟨(⟨0, 0, (0, 0, ⟨#[]⟩), ⟨#[]⟩, []⟩, undef)⟩
      obtain ⟨q, hq⟩ := choose_lt each
      refine ⟨(List.range len).map fun i => (q i).1, ⟨some a, _, by rw [List.length_map, List.length_range], by rw [List.length_map, List.length_range]; omega, fun k e hk => ?_⟩, fun m e he => ?_, fun m => ?_⟩
      rotate_left
      · obtain ⟨i, hi, rfl⟩ := List.mem_map.1 he
        exact (hq i (List.mem_range.1 hi)).2.2.1 m
      · have h := flat_bulk D (fun i => (q i).1) (colE m) (List.range len) (fun i hi => (hq i (List.mem_range.1 hi)).2.2.2 m)
        omega
      obtain ⟨hk1, hk2⟩ := List.getElem?_eq_some_iff.1 hk
      simp at hk1 hk2
      subst hk2
      obtain ⟨g0, g1, _⟩ := hq k hk1
      have hb := cell_ltX g0.1
      rw [add_blk] at hb
      exact ⟨a, (q k).2, rfl, Nat.zero_le _, hb, g0, g1⟩
end
end Go.Proofs.Yteihjneeiojgaaa
