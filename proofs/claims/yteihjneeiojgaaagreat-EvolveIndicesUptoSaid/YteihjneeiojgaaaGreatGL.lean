import Derived.Test.YteihjneeiojgaaaGreatSScVa
import Derived.Test.YteihjneeiojgaaaGreatSScWb
import Derived.Test.YteihjneeiojgaaaGreatSEoA
import Derived.Deep.RegionHeld3
import Derived.WalkKit
import Derived.WalkSpells
import Derived.WalkLawsBesides
import Derived.Deep.QuietTactic
import Derived.BigQuiet
import Derived.Handy
import Derived.Lib.Hide
import Derived.Test.YteihjneeiojgaaaGreatME
import Derived.Test.YteihjneeiojgaaaGreatMC
import Derived.Test.YteihjneeiojgaaaGreatMA
import Derived.Deep.Slices
import Derived.Test.YteihjneeiojgaaaGreatSExUa
import Derived.Test.YteihjneeiojgaaaGreatSExUe
/-
  The walk of the statement SchemaFinds. Conditions: the search's variable holds some number; lengths.
-/
namespace Go.Proofs.YteihjneeiojgaaaGreat
set_option maxRecDepth 100000
set_option linter.unusedVariables false
set_option linter.unusedSimpArgs false
open Go.RowKit

theorem colL_ok : ∀ (l : List Cl) (pre : List (List UInt8)), colL pre l = 0 → ∀ (k : Nat) (c : Cl), l[k]? = some c → nameS (nmC c) = true ∧ nmC c ∉ (l.take k).map nmC ∧ nmC c ∉ pre
  | [], _, _, _, _, h => by simp at h
  | c0 :: cs, pre, h, k, c, hk => by
    unfold colL at h
    by_cases h1 : nameS (nmC c0) = false
    · rw [if_pos h1] at h; exact absurd h (by decide)
    rw [if_neg h1] at h
    by_cases h2 : c0.2.1 < 1 ∨ 3 < c0.2.1
    · rw [if_pos h2] at h; exact absurd h (by decide)
    rw [if_neg h2] at h
    by_cases h3 : nmC c0 ∈ pre
    · rw [if_pos h3] at h; exact absurd h (by decide)
    rw [if_neg h3] at h
    cases k with
    | zero =>
      simp at hk
      subst hk
      exact ⟨by simpa using h1, by simp, h3⟩
    | succ k =>
      obtain ⟨g1, g2, g3⟩ := colL_ok cs (pre ++ [nmC c0]) h k c (by simpa using hk)
      rw [List.mem_append, List.mem_singleton] at g3
      refine ⟨g1, ?_, fun h => g3 (.inl h)⟩
      rw [List.take_succ_cons, List.map_cons, List.mem_cons]
      exact fun h => h.elim (fun h => g3 (.inr h)) g2
theorem colE_ok {cs : List Cl} (h : clsE cs = 0) : ∀ (k : Nat) (c : Cl), cs[k]? = some c → nameS (nmC c) = true ∧ findK c.1 0 cs = (k : Int) := by
  intro k c hk
  unfold clsE at h
  by_cases h1 : cs.length = 0 ∨ 12 < cs.length
  · rw [if_pos h1] at h; exact absurd h (by decide)
  rw [if_neg h1] at h
  obtain ⟨g1, g2, _⟩ := colL_ok cs [] h k c hk
  obtain ⟨f1, f2, f3⟩ := findK_has c.1 cs 0 k c hk rfl
  rw [Nat.zero_add] at f2 f3
  refine ⟨g1, ?_⟩
  have : ¬ findK c.1 0 cs < (k : Int) := fun h => g2 (f3.1 h)
  omega
theorem chkA_ok {nm : List UInt8} {cs : List Cl} {ks : List Int} {fs : List Fk} {d : Nat} {es : List Ex} (h : chkA nm cs ks fs d es = 0) : nameS nm = true ∧ clsE cs = 0 ∧ keyE cs ks = 0 := by
  unfold chkA at h
  by_cases h1 : nameS nm = false
  · rw [if_pos h1] at h; exact absurd h (by decide)
  rw [if_neg h1] at h
  by_cases h2 : clsE cs ≠ 0
  · rw [if_pos h2] at h; exact absurd h h2
  rw [if_neg h2] at h
  by_cases h3 : keyE cs ks ≠ 0
  · rw [if_pos h3] at h; exact absurd h h3
  exact ⟨by simpa using h1, by simpa using h2, by simpa using h3⟩
end Go.Proofs.YteihjneeiojgaaaGreat
/-
  Arguments that are expressions, opened, and how much they hold, as the second forms reckon it. Conditions: none.
-/
namespace Go.Proofs.YteihjneeiojgaaaGreat
set_option maxRecDepth 100000
set_option linter.unusedVariables false
set_option linter.unusedSimpArgs false
open Go.ChangeShapes Go.WideShapes Go.ChangeAt Go.RowKit Go.Joins Go.Deep

theorem cellsExp : Tryz.prog.cellsOf 73 = 7 := by kernel_rfl
theorem cellsExps : Tryz.prog.cellsOf 25 = 1 := by kernel_rfl
theorem cellsIntX : Tryz.prog.cellsOf 3 = 1 := by kernel_rfl
theorem cellsStrX : Tryz.prog.cellsOf 9 = 1 := by kernel_rfl
theorem cellsValX : Tryz.prog.cellsOf 31 = 3 := by kernel_rfl
theorem cell_ltX {w : World} {a : Addr} {v : Value} (h : w.cell? a = some v) : a.block < w.heap.size := World.block_lt_of_cell? w a h
theorem bulk_posX {H : Type} (d : DataW H) : 1 ≤ Rows.uptoBulk d := by
  unfold Rows.uptoBulk
  split <;> omega
theorem bulk_lenX {H : Type} (D : Nat → DataW H) : ∀ l : List Nat, l.length ≤ Rows.uptoBulkAll (l.map D)
  | [] => by simp
  | j :: l => by
    have h1 := bulk_posX (D j)
    have h2 := bulk_lenX D l
    simp only [List.map_cons, Rows.uptoBulkAll, List.length_cons]
    omega
theorem bulk_memX {H : Type} (D : Nat → DataW H) : ∀ (l : List Nat) (i : Nat), i ∈ l → Rows.uptoBulk (D i) ≤ Rows.uptoBulkAll (l.map D)
  | j :: l, i, h => by
    simp only [List.map_cons, Rows.uptoBulkAll]
    rcases List.mem_cons.1 h with rfl | h
    · omega
    · have := bulk_memX D l i h; omega
section
variable {H : Type} {enc : TypeId × Value → H} {W : World} {base : Nat}
set_option maxRecDepth 100000 in
/-- The own fields of an expression, and its arguments' slice. -/
theorem open_fields {fuel : Nat} {cs : List Value} {x : DataW H × List MemPlace} (hf : DataW.trod enc Tryz.prog W 0 (fun _ => true) true fuel 73 cs = some x) :
    ∃ (op n k m : Int) (s nm : ByteArray) (u : Value) (f : Nat) (dd : DataW H) (pp : List MemPlace), cs = [.int .i64 op, .int .i64 n, .int .i64 k, .int .i64 m, .string s, .string nm, u] ∧
      DataW.trod enc Tryz.prog W 0 (fun _ => true) true f 25 [u] = some (dd, pp) ∧ Rows.uptoBulk dd < Rows.uptoBulk x.1 := by
  obtain ⟨xs, n', _, hxy, hcl, hxl, hfl⟩ := DataW.trod_struct Tryz.underlying73 hf
  rw [cellsExp] at hcl
  match xs, hxl, cs, hcl with
  | [y0, y1, y2, y3, y4], _, [v0, v1, v2, v3, v4, v5, v6], _ =>
    have g0 := hfl 0 _ rfl
    have g1 := hfl 1 _ rfl
    have g2 := hfl 2 _ rfl
    have g3 := hfl 3 _ rfl
    have g4 := hfl 4 _ rfl
    simp [cellsIntX, cellsStrX, cellsValX, cellsExps] at g0 g1 g2 g3 g4
    obtain ⟨a0, e0, _⟩ := DataW.trod_int Tryz.underlying3 g0
    obtain ⟨a1, e1, _⟩ := DataW.trod_int Tryz.underlying3 g1
    obtain ⟨a3, e3, _⟩ := DataW.trod_string Tryz.underlying9 g3
    obtain ⟨zs, n2, _, _, hzc, hzl, hgl⟩ := DataW.trod_struct Tryz.underlying31 g2
    match zs, hzl with
    | [z0, z1, z2], _ =>
      have k0 := hgl 0 _ rfl
      have k1 := hgl 1 _ rfl
      have k2 := hgl 2 _ rfl
      simp [cellsIntX, cellsStrX] at k0 k1 k2
      obtain ⟨b0, f0, _⟩ := DataW.trod_int Tryz.underlying3 k0
      obtain ⟨b1, f1, _⟩ := DataW.trod_int Tryz.underlying3 k1
      obtain ⟨b2, f2, _⟩ := DataW.trod_string Tryz.underlying9 k2
      simp at e0 e1 e3 f0 f1 f2
      subst e0 e1 e3 f0 f1 f2
      obtain ⟨y4a, y4b⟩ := y4
      refine ⟨a0, a1, b0, b1, b2, a3, v6, n', y4a, y4b, rfl, g4, ?_⟩
      have hd : x.1 = .agg [y0.1, y1.1, y2.1, y3.1, y4a] := by simpa using congrArg Prod.fst hxy
      rw [hd]
      simp only [Rows.uptoBulk, Rows.uptoBulkAll]
      omega
set_option maxRecDepth 100000 in
theorem open_exprs : ∀ (N fuel : Nat) (u : Value) (d : DataW H) (p : List MemPlace), Rows.uptoBulk d ≤ N → N ≤ 1048576 → DataW.trod enc Tryz.prog W 0 (fun _ => true) true fuel 25 [u] = some (d, p) →
    ∃ es : List Ex, RdE W 0 W.heap.size N u es
  | 0, _, _, d, _, hN, _, _ => by have := bulk_posX d; omega
  | N + 1, fuel, u, d, p, hN, hbig, hf => by
    rcases open_slice Tryz.underlying25 hf with ⟨hcs, _⟩ | ⟨a, len, cap, m, n, D, Pl, hcs, _, hl, hm, hmm, hxx, hx⟩
    · injection hcs with hcs _
      subst hcs
      exact ⟨[], none, 0, rfl, by simp, by simp⟩
    · injection hcs with hcs _
      subst hcs
      rw [if_pos rfl] at hmm
      subst hmm
      have hd : d = .slice ((List.range len).map D) ((List.range (m - len)).map fun j => D (len + j)) := congrArg Prod.fst hxx
      have hlen : len ≤ Rows.uptoBulkAll ((List.range len).map D) := by have := bulk_lenX D (List.range len); rwa [List.length_range] at this
      have hsum : Rows.uptoBulkAll ((List.range len).map D) < Rows.uptoBulk d := by rw [hd]; simp only [Rows.uptoBulk]; omega
      have each : ∀ i, i < len → ∃ q : Ex × Value, ExC W (a.add (i * 7)) q.1 q.2 ∧ RdE W 0 W.heap.size N q.2 q.1.args := by
        intro i hi
        obtain ⟨cs', hc, ht⟩ := hx i (by omega)
        rw [cellsExp] at hc
        obtain ⟨_, hcl, hat⟩ := World.cells?_some hc
        obtain ⟨op, n1, k, m1, s, nm, w6, f, dd, pp, rfl, hg, hlt⟩ := open_fields ht
        have hi2 := bulk_memX D (List.range len) i (List.mem_range.2 hi)
        obtain ⟨es, hes⟩ := open_exprs N f w6 dd pp (by dsimp only at hlt; omega) (by omega) hg
        refine ⟨(⟨op, n1, (k, m1, s), nm, es⟩, w6), ?_, hes⟩
        have c0 := hat 0 (by omega)
        have c1 := hat 1 (by omega)
        have c2 := hat 2 (by omega)
        have c3 := hat 3 (by omega)
        have c4 := hat 4 (by omega)
        have c5 := hat 5 (by omega)
        have c6 := hat 6 (by omega)
        have ea : ∀ j, j ≠ 0 → (a.add (i * 7)).add j = ⟨(a.add (i * 7)).block, (a.add (i * 7)).off + j, none⟩ := fun j hj => by unfold Addr.add; rw [if_neg hj]
        rw [show (a.add (i * 7)).add 0 = a.add (i * 7) by unfold Addr.add; simp] at c0
        rw [ea 1 (by decide)] at c1
        rw [ea 2 (by decide)] at c2
        rw [ea 3 (by decide)] at c3
        rw [ea 4 (by decide)] at c4
        rw [ea 5 (by decide)] at c5
        rw [ea 6 (by decide)] at c6
        exact ⟨by simpa using c0, by simpa using c1, by simpa using c2, by simpa using c3, by simpa using c4, by simpa using c5, by simpa using c6⟩
      haveI : Inhabited (Ex × Value) := ⟨(⟨0, 0, (0, 0, ⟨#[]⟩), ⟨#[]⟩, []⟩, undef)⟩
      obtain ⟨q, hq⟩ := choose_lt each
      refine ⟨(List.range len).map fun i => (q i).1, some a, _, by rw [List.length_map, List.length_range], by rw [List.length_map, List.length_range]; omega, fun k e hk => ?_⟩
      obtain ⟨hk1, hk2⟩ := List.getElem?_eq_some_iff.1 hk
      simp at hk1 hk2
      subst hk2
      obtain ⟨g0, g1⟩ := hq k hk1
      have hb := cell_ltX g0.1
      rw [add_blk] at hb
      exact ⟨a, (q k).2, rfl, Nat.zero_le _, hb, g0, g1⟩
/-- An argument that is an expression. -/
theorem open_expU {v : Value} {d : DataW H} {p : List MemPlace} (hv : Value.okWide Tryz.prog W .any base 73 v) (h : DataW.Trod enc Tryz.prog W 0 (fun _ => true) true 73 v d p) (hN : Rows.uptoBulk d ≤ 1048576) :
    ∃ (e : Ex) (A : Option Addr) (c : Nat), v = exV e (.slice A e.args.length c) ∧ RdE W 0 W.heap.size 1048576 (.slice A e.args.length c) e.args := by
  obtain ⟨cs, rfl, hsz⟩ := okWide_struct Tryz.underlying73 hv
  obtain ⟨fuel, hf⟩ := h
  obtain ⟨op, n1, k, m1, s, nm, w6, f, dd, pp, hcs, hg, hlt⟩ := open_fields hf
  obtain ⟨es, hes⟩ := open_exprs (Rows.uptoBulk dd) f w6 dd pp (Nat.le_refl _) (by dsimp only at hlt; omega) hg
  obtain ⟨A, c, rfl, _⟩ := hes.slice
  obtain ⟨l⟩ := cs
  simp only [Value.cells] at hcs
  refine ⟨⟨op, n1, (k, m1, s), nm, es⟩, A, c, ?_, hes.up (by dsimp only at hlt; omega)⟩
  unfold exV
  dsimp only
  exact congrArg (fun l => Value.agg l.toArray) hcs
end
end Go.Proofs.YteihjneeiojgaaaGreat
/-
  How tables are opened in full, and how much they hold, as the second forms reckon it. Conditions: none.
-/
namespace Go.Proofs.YteihjneeiojgaaaGreat
set_option maxRecDepth 100000
set_option linter.unusedVariables false
set_option linter.unusedSimpArgs false
open Go.ChangeShapes Go.WideShapes Go.ChangeAt Go.RowKit Go.Joins Go.Deep

theorem cellsInts1 : Tryz.prog.cellsOf 23 = 1 := by kernel_rfl
section
variable {H : Type} {enc : TypeId × Value → H} {W : World} {base : Nat}
theorem bulk_len (D : Nat → DataW H) : ∀ l : List Nat, (∀ i ∈ l, 1 ≤ Rows.uptoBulk (D i)) → l.length ≤ Rows.uptoBulkAll (l.map D)
  | [], _ => by simp
  | j :: l, h => by
    have h1 := h j (List.mem_cons_self ..)
    have h2 := bulk_len D l (fun i hi => h i (List.mem_cons_of_mem _ hi))
    simp only [List.map_cons, Rows.uptoBulkAll, List.length_cons]
    omega
theorem bulk_pos (d : DataW H) : 1 ≤ Rows.uptoBulk d := by
  unfold Rows.uptoBulk
  split <;> omega
set_option maxRecDepth 100000 in
theorem open_colsB {fuel : Nat} {cs : List Value} {d : DataW H} {p : List MemPlace} (hf : DataW.trod enc Tryz.prog W 0 (fun _ => true) true fuel 22 cs = some (d, p)) :
    ∃ (v : Value) (ps : List Cl), cs = [v] ∧ RdK W 0 W.heap.size v ps ∧ ps.length ≤ Rows.uptoBulk d := by
  rcases open_slice Tryz.underlying22 hf with ⟨hcs, _⟩ | ⟨a, len, cap, m, n, D, Pl, hcs, _, hl, hm, hmm, hxx, hx⟩
  · subst hcs
    exact ⟨_, [], rfl, ⟨none, 0, rfl, by simp, by simp⟩, by simp⟩
  · obtain ⟨v, ps, e, h⟩ := open_cols hf
    refine ⟨v, ps, e, h, ?_⟩
    rw [if_pos rfl] at hmm
    subst hmm hcs
    injection e with e _
    subst e
    obtain ⟨A, c, e2, _⟩ := h
    injection e2 with _ e3 _
    have hd : d = .slice ((List.range len).map D) ((List.range (m - len)).map fun j => D (len + j)) := congrArg Prod.fst hxx
    rw [hd]
    have := bulk_len D (List.range len) (fun i _ => bulk_pos _)
    rw [List.length_range] at this
    show _ ≤ (Rows.uptoBulkAll _ + Rows.uptoBulkAll _ + 1)
    omega
set_option maxRecDepth 100000 in
theorem open_intsB {fuel : Nat} {cs : List Value} {d : DataW H} {p : List MemPlace} (hf : DataW.trod enc Tryz.prog W 0 (fun _ => true) true fuel 23 cs = some (d, p)) :
    ∃ (v : Value) (zs : List Int), cs = [v] ∧ RdI W 0 W.heap.size v zs ∧ zs.length ≤ Rows.uptoBulk d := by
  rcases open_slice Tryz.underlying23 hf with ⟨hcs, _⟩ | ⟨a, len, cap, m, n, D, Pl, hcs, _, hl, hm, hmm, hxx, hx⟩
  · subst hcs
    exact ⟨_, [], rfl, ⟨none, 0, rfl, by simp, by simp⟩, by simp⟩
  · subst hcs
    rw [if_pos rfl] at hmm
    subst hmm
    have hml := maxLen_le
    have each : ∀ i, i < len → ∃ q : Int, W.cell? (a.add i) = some (.int .i64 q) := by
      intro i hi
      obtain ⟨cs', hc, ht⟩ := hx i (by omega)
      rw [cellsInt1, Nat.mul_one] at hc
      obtain ⟨_, hcl, hat⟩ := World.cells?_some hc
      match cs', hcl with
      | [v0], _ =>
        have e0 := hat 0 (by omega)
        obtain ⟨x, f0, _⟩ := DataW.trod_int Tryz.underlying3 ht
        simp at f0
        subst f0
        exact ⟨x, by simpa [show (a.add i).add 0 = a.add i by unfold Addr.add; simp] using e0⟩
    obtain ⟨q, hq⟩ := choose_lt each
    have hd : d = .slice ((List.range len).map D) ((List.range (m - len)).map fun j => D (len + j)) := congrArg Prod.fst hxx
    refine ⟨_, (List.range len).map q, rfl, ⟨some a, _, by rw [List.length_map, List.length_range], by rw [List.length_map, List.length_range]; omega, fun k p hk => ?_⟩, ?_⟩
    · obtain ⟨hk1, hk2⟩ := List.getElem?_eq_some_iff.1 hk
      simp at hk1 hk2
      subst hk2
      have g0 := hq k hk1
      have hb := cell_lt g0
      rw [add_block] at hb
      exact ⟨a, rfl, Nat.zero_le _, hb, g0⟩
    · rw [hd, List.length_map]
      have := bulk_len D (List.range len) (fun i _ => bulk_pos _)
      show _ ≤ (Rows.uptoBulkAll _ + Rows.uptoBulkAll _ + 1)
      omega
set_option maxRecDepth 100000 in
theorem open_tabU {v : Value} {d : DataW H} {p : List MemPlace} (hv : Value.okWide Tryz.prog W .any base 27 v) (h : DataW.Trod enc Tryz.prog W 0 (fun _ => true) true 27 v d p) :
    ∃ (nm v1 v2 v3 v4 : Value) (cs : List Cl) (zs : List Int), v = .agg #[nm, v1, v2, v3, v4] ∧ RdK W 0 W.heap.size v1 cs ∧ RdI W 0 W.heap.size v2 zs ∧ cs.length ≤ Rows.uptoBulk d ∧ zs.length ≤ Rows.uptoBulk d := by
  obtain ⟨cs, rfl, hsz⟩ := okWide_struct Tryz.underlying27 hv
  rw [cellsTab] at hsz
  obtain ⟨l⟩ := cs
  match l, hsz with
  | [c0, c1, c2, c3, c4], _ =>
    obtain ⟨fuel, hf⟩ := h
    obtain ⟨xs, n', _, hxy, _, hxl, hfl⟩ := DataW.trod_struct Tryz.underlying27 hf
    match xs, hxl with
    | [y0, y1, y2, y3, y4], _ =>
      have g1 := hfl 1 _ rfl
      have g2 := hfl 2 _ rfl
      simp [cellsCols1, cellsInts1, Value.cells] at g1 g2
      obtain ⟨y1a, y1b⟩ := y1
      obtain ⟨y2a, y2b⟩ := y2
      obtain ⟨v1, ps, e1, h1, k1⟩ := open_colsB g1
      obtain ⟨v2, zs, e2, h2, k2⟩ := open_intsB g2
      injection e1 with e1 _
      injection e2 with e2 _
      subst e1 e2
      have hd : d = .agg [y0.1, y1a, y2a, y3.1, y4.1] := by simpa using congrArg Prod.fst hxy
      refine ⟨c0, c1, c2, c3, c4, ps, zs, rfl, h1, h2, ?_, ?_⟩
      · rw [hd]; simp only [Rows.uptoBulk, Rows.uptoBulkAll]; omega
      · rw [hd]; simp only [Rows.uptoBulk, Rows.uptoBulkAll]; omega
theorem cellsFor : Tryz.prog.cellsOf 60 = 2 := by kernel_rfl
theorem cellsFors1 : Tryz.prog.cellsOf 24 = 1 := by kernel_rfl
theorem cellsStrT : Tryz.prog.cellsOf 9 = 1 := by kernel_rfl
theorem cellsExps1 : Tryz.prog.cellsOf 25 = 1 := by kernel_rfl
set_option maxRecDepth 100000 in
theorem open_fors {fuel : Nat} {cs : List Value} {d : DataW H} {p : List MemPlace} (hf : DataW.trod enc Tryz.prog W 0 (fun _ => true) true fuel 24 cs = some (d, p)) :
    ∃ (v : Value) (fs : List Fk), cs = [v] ∧ RdF W 0 W.heap.size v fs := by
  rcases open_slice Tryz.underlying24 hf with ⟨hcs, _⟩ | ⟨a, len, cap, m, n, D, Pl, hcs, _, hl, hm, hmm, hxx, hx⟩
  · subst hcs
    exact ⟨_, [], rfl, none, 0, rfl, by simp, by simp⟩
  · subst hcs
    rw [if_pos rfl] at hmm
    subst hmm
    have hml := maxLen_le
    have each : ∀ i, i < len → ∃ q : Fk × Value, W.cell? (a.add (i * 2)) = some q.2 ∧ W.cell? ⟨(a.add (i * 2)).block, (a.add (i * 2)).off + 1, none⟩ = some (.string q.1.2) ∧ RdI W 0 W.heap.size q.2 q.1.1 := by
      intro i hi
      obtain ⟨cs', hc, ht⟩ := hx i (by omega)
      rw [cellsFor] at hc
      obtain ⟨_, hcl, hat⟩ := World.cells?_some hc
      obtain ⟨xs, n', _, hxy, hcl2, hxl, hfl⟩ := DataW.trod_struct Tryz.underlying60 ht
      match xs, hxl, cs', hcl with
      | [y0, y1], _, [v0, v1], _ =>
        have g0 := hfl 0 _ rfl
        have g1 := hfl 1 _ rfl
        simp [cellsInts1, cellsStrT] at g0 g1
        obtain ⟨y0a, y0b⟩ := y0
        obtain ⟨u, zs, e0, h0, _⟩ := open_intsB g0
        injection e0 with e0 _
        subst e0
        obtain ⟨a1, e1, _⟩ := DataW.trod_string Tryz.underlying9 g1
        simp at e1
        subst e1
        have c0 := hat 0 (by omega)
        have c1 := hat 1 (by omega)
        refine ⟨((zs, a1), v0), ?_, ?_, h0⟩
        · simpa [show (a.add (i * 2)).add 0 = a.add (i * 2) by unfold Addr.add; simp] using c0
        · rw [show (a.add (i * 2)).add 1 = ⟨(a.add (i * 2)).block, (a.add (i * 2)).off + 1, none⟩ by unfold Addr.add; rw [if_neg (by decide)]] at c1
          simpa using c1
    haveI : Inhabited (Fk × Value) := ⟨(([], ⟨#[]⟩), undef)⟩
    obtain ⟨q, hq⟩ := choose_lt each
    refine ⟨_, (List.range len).map fun i => (q i).1, rfl, some a, _, by rw [List.length_map, List.length_range], by rw [List.length_map, List.length_range]; omega, fun k f hk => ?_⟩
    obtain ⟨hk1, hk2⟩ := List.getElem?_eq_some_iff.1 hk
    simp at hk1 hk2
    subst hk2
    obtain ⟨g0, g1, g2⟩ := hq k hk1
    have hb := cell_lt g0
    rw [add_block] at hb
    exact ⟨a, (q k).2, rfl, Nat.zero_le _, hb, g0, g1, g2⟩
set_option maxRecDepth 100000 in
theorem open_tabF {v : Value} {d : DataW H} {p : List MemPlace} (hv : Value.okWide Tryz.prog W .any base 27 v) (h : DataW.Trod enc Tryz.prog W 0 (fun _ => true) true 27 v d p) (hN : Rows.uptoBulk d ≤ 1048576) :
    ∃ (nm : ByteArray) (v1 v2 v3 v4 : Value) (cs : List Cl) (zs : List Int) (fs : List Fk) (es : List Ex), v = .agg #[.string nm, v1, v2, v3, v4] ∧ RdK W 0 W.heap.size v1 cs ∧ RdI W 0 W.heap.size v2 zs ∧ RdF W 0 W.heap.size v3 fs ∧ RdE W 0 W.heap.size (1048575 + 1) v4 es ∧ cs.length ≤ Rows.uptoBulk d ∧ zs.length ≤ Rows.uptoBulk d := by
  obtain ⟨cs, rfl, hsz⟩ := okWide_struct Tryz.underlying27 hv
  rw [cellsTab] at hsz
  obtain ⟨l⟩ := cs
  match l, hsz with
  | [c0, c1, c2, c3, c4], _ =>
    obtain ⟨fuel, hf⟩ := h
    obtain ⟨xs, n', _, hxy, _, hxl, hfl⟩ := DataW.trod_struct Tryz.underlying27 hf
    match xs, hxl with
    | [y0, y1, y2, y3, y4], _ =>
      have g0 := hfl 0 _ rfl
      have g1 := hfl 1 _ rfl
      have g2 := hfl 2 _ rfl
      have g3 := hfl 3 _ rfl
      have g4 := hfl 4 _ rfl
      simp [cellsCols1, cellsInts1, cellsFors1, cellsStrT, cellsExps1, Value.cells] at g0 g1 g2 g3 g4
      obtain ⟨y1a, y1b⟩ := y1
      obtain ⟨y2a, y2b⟩ := y2
      obtain ⟨y3a, y3b⟩ := y3
      obtain ⟨y4a, y4b⟩ := y4
      obtain ⟨nm, e0, _⟩ := DataW.trod_string Tryz.underlying9 g0
      simp at e0
      subst e0
      obtain ⟨v1, ps, e1, h1, k1⟩ := open_colsB g1
      obtain ⟨v2, zs, e2, h2, k2⟩ := open_intsB g2
      obtain ⟨v3, fs, e3, h3⟩ := open_fors g3
      injection e1 with e1 _
      injection e2 with e2 _
      injection e3 with e3 _
      subst e1 e2 e3
      have hd : d = .agg [y0.1, y1a, y2a, y3a, y4a] := by simpa using congrArg Prod.fst hxy
      have hy4 : Rows.uptoBulk y4a ≤ 1048575 := by rw [hd] at hN; simp only [Rows.uptoBulk, Rows.uptoBulkAll] at hN; omega
      obtain ⟨es, h4⟩ := open_exprs (Rows.uptoBulk y4a) n' c4 y4a y4b (Nat.le_refl _) (by omega) g4
      refine ⟨nm, c1, c2, c3, c4, ps, zs, fs, es, rfl, h1, h2, h3, h4.up (by omega), ?_, ?_⟩
      · rw [hd]; simp only [Rows.uptoBulk, Rows.uptoBulkAll]; omega
      · rw [hd]; simp only [Rows.uptoBulk, Rows.uptoBulkAll]; omega
end
end Go.Proofs.YteihjneeiojgaaaGreat
/-
  How tables are opened with the lengths of all their lists. Conditions: none. (Written by mkScGc.py.)
-/
namespace Go.Proofs.YteihjneeiojgaaaGreat
set_option maxRecDepth 100000
set_option linter.unusedVariables false
set_option linter.unusedSimpArgs false
open Go.ChangeShapes Go.WideShapes Go.ChangeAt Go.RowKit Go.Joins Go.Deep

section
variable {H : Type} {enc : TypeId × Value → H} {W : World} {base : Nat}
set_option maxRecDepth 100000 in
theorem open_forsL {fuel : Nat} {cs : List Value} {d : DataW H} {p : List MemPlace} (hf : DataW.trod enc Tryz.prog W 0 (fun _ => true) true fuel 24 cs = some (d, p)) :
    ∃ (v : Value) (fs : List Fk), cs = [v] ∧ RdF W 0 W.heap.size v fs ∧ fs.length ≤ Rows.uptoBulk d ∧ ∀ f ∈ fs, f.1.length ≤ Rows.uptoBulk d := by
  rcases open_slice Tryz.underlying24 hf with ⟨hcs, _⟩ | ⟨a, len, cap, m, n, D, Pl, hcs, _, hl, hm, hmm, hxx, hx⟩
  · subst hcs
    exact ⟨_, [], rfl, ⟨none, 0, rfl, by simp, by simp⟩, by simp, by simp⟩
  · subst hcs
    rw [if_pos rfl] at hmm
    subst hmm
    have hml := maxLen_le
    have each : ∀ i, i < len → ∃ q : Fk × Value, W.cell? (a.add (i * 2)) = some q.2 ∧ W.cell? ⟨(a.add (i * 2)).block, (a.add (i * 2)).off + 1, none⟩ = some (.string q.1.2) ∧ RdI W 0 W.heap.size q.2 q.1.1 ∧ q.1.1.length ≤ Rows.uptoBulk (D i) := by
      intro i hi
      obtain ⟨cs', hc, ht⟩ := hx i (by omega)
      rw [cellsFor] at hc
      obtain ⟨_, hcl, hat⟩ := World.cells?_some hc
      obtain ⟨xs, n', _, hxy, hcl2, hxl, hfl⟩ := DataW.trod_struct Tryz.underlying60 ht
      match xs, hxl, cs', hcl with
      | [y0, y1], _, [v0, v1], _ =>
        have g0 := hfl 0 _ rfl
        have g1 := hfl 1 _ rfl
        simp [cellsInts1, cellsStrT] at g0 g1
        obtain ⟨y0a, y0b⟩ := y0
        obtain ⟨u, zs, e0, h0, hzl⟩ := open_intsB g0
        have hDi : D i = .agg [y0a, y1.1] := by simpa using congrArg Prod.fst hxy
        injection e0 with e0 _
        subst e0
        obtain ⟨a1, e1, _⟩ := DataW.trod_string Tryz.underlying9 g1
        simp at e1
        subst e1
        have c0 := hat 0 (by omega)
        have c1 := hat 1 (by omega)
        refine ⟨((zs, a1), v0), ?_, ?_, h0, by rw [hDi]; simp only [Rows.uptoBulk, Rows.uptoBulkAll]; omega⟩
        · simpa [show (a.add (i * 2)).add 0 = a.add (i * 2) by unfold Addr.add; simp] using c0
        · rw [show (a.add (i * 2)).add 1 = ⟨(a.add (i * 2)).block, (a.add (i * 2)).off + 1, none⟩ by unfold Addr.add; rw [if_neg (by decide)]] at c1
          simpa using c1
    haveI : Inhabited (Fk × Value) := ⟨(([], ⟨#[]⟩), undef)⟩
    obtain ⟨q, hq⟩ := choose_lt each
    have hd : d = .slice ((List.range len).map D) ((List.range (m - len)).map fun j => D (len + j)) := congrArg Prod.fst hxx
    have hbl : Rows.uptoBulkAll ((List.range len).map D) < Rows.uptoBulk d := by rw [hd]; simp only [Rows.uptoBulk]; omega
    refine ⟨_, (List.range len).map fun i => (q i).1, rfl, ⟨some a, _, by rw [List.length_map, List.length_range], by rw [List.length_map, List.length_range]; omega, fun k f hk => ?_⟩, ?_, ?_⟩
    rotate_left
    · rw [List.length_map, List.length_range]
      have := bulk_lenX D (List.range len)
      rw [List.length_range] at this
      omega
    · intro f hf
      obtain ⟨i, hi, rfl⟩ := List.mem_map.1 hf
      have h1 := (hq i (List.mem_range.1 hi)).2.2.2
      have h2 := bulk_memX D (List.range len) i hi
      omega
    obtain ⟨hk1, hk2⟩ := List.getElem?_eq_some_iff.1 hk
    simp at hk1 hk2
    subst hk2
    obtain ⟨g0, g1, g2, _⟩ := hq k hk1
    have hb := cell_lt g0
    rw [add_block] at hb
    exact ⟨a, (q k).2, rfl, Nat.zero_le _, hb, g0, g1, g2⟩
set_option maxRecDepth 100000 in
theorem open_tabL {v : Value} {d : DataW H} {p : List MemPlace} (hv : Value.okWide Tryz.prog W .any base 27 v) (h : DataW.Trod enc Tryz.prog W 0 (fun _ => true) true 27 v d p) (hN : Rows.uptoBulk d ≤ 1048576) :
    ∃ (nm : ByteArray) (v1 v2 v3 v4 : Value) (cs : List Cl) (zs : List Int) (fs : List Fk) (es : List Ex), v = .agg #[.string nm, v1, v2, v3, v4] ∧ RdK W 0 W.heap.size v1 cs ∧ RdI W 0 W.heap.size v2 zs ∧ RdF W 0 W.heap.size v3 fs ∧ RdE W 0 W.heap.size (1048575 + 1) v4 es ∧ cs.length ≤ Rows.uptoBulk d ∧ zs.length ≤ Rows.uptoBulk d ∧ fs.length ≤ Rows.uptoBulk d ∧ ∀ f ∈ fs, f.1.length ≤ Rows.uptoBulk d := by
  obtain ⟨cs, rfl, hsz⟩ := okWide_struct Tryz.underlying27 hv
  rw [cellsTab] at hsz
  obtain ⟨l⟩ := cs
  match l, hsz with
  | [c0, c1, c2, c3, c4], _ =>
    obtain ⟨fuel, hf⟩ := h
    obtain ⟨xs, n', _, hxy, _, hxl, hfl⟩ := DataW.trod_struct Tryz.underlying27 hf
    match xs, hxl with
    | [y0, y1, y2, y3, y4], _ =>
      have g0 := hfl 0 _ rfl
      have g1 := hfl 1 _ rfl
      have g2 := hfl 2 _ rfl
      have g3 := hfl 3 _ rfl
      have g4 := hfl 4 _ rfl
      simp [cellsCols1, cellsInts1, cellsFors1, cellsStrT, cellsExps1, Value.cells] at g0 g1 g2 g3 g4
      obtain ⟨y1a, y1b⟩ := y1
      obtain ⟨y2a, y2b⟩ := y2
      obtain ⟨y3a, y3b⟩ := y3
      obtain ⟨y4a, y4b⟩ := y4
      obtain ⟨nm, e0, _⟩ := DataW.trod_string Tryz.underlying9 g0
      simp at e0
      subst e0
      obtain ⟨v1, ps, e1, h1, k1⟩ := open_colsB g1
      obtain ⟨v2, zs, e2, h2, k2⟩ := open_intsB g2
      obtain ⟨v3, fs, e3, h3, k3, k4⟩ := open_forsL g3
      injection e1 with e1 _
      injection e2 with e2 _
      injection e3 with e3 _
      subst e1 e2 e3
      have hd : d = .agg [y0.1, y1a, y2a, y3a, y4a] := by simpa using congrArg Prod.fst hxy
      have hy4 : Rows.uptoBulk y4a ≤ 1048575 := by rw [hd] at hN; simp only [Rows.uptoBulk, Rows.uptoBulkAll] at hN; omega
      obtain ⟨es, h4⟩ := open_exprs (Rows.uptoBulk y4a) n' c4 y4a y4b (Nat.le_refl _) (by omega) g4
      refine ⟨nm, c1, c2, c3, c4, ps, zs, fs, es, rfl, h1, h2, h3, h4.up (by omega), ?_, ?_, ?_, fun f hf => ?_⟩
      · rw [hd]; simp only [Rows.uptoBulk, Rows.uptoBulkAll]; omega
      · rw [hd]; simp only [Rows.uptoBulk, Rows.uptoBulkAll]; omega
      · rw [hd]; simp only [Rows.uptoBulk, Rows.uptoBulkAll]; omega
      · have := k4 f hf
        rw [hd]; simp only [Rows.uptoBulk, Rows.uptoBulkAll]; omega
end
end Go.Proofs.YteihjneeiojgaaaGreat
/-
  Arguments that are expressions, opened: their numbers are ints, their columns are few. Conditions: none.
-/
namespace Go.Proofs.YteihjneeiojgaaaGreat
set_option maxRecDepth 100000
set_option linter.unusedVariables false
set_option linter.unusedSimpArgs false
open Go.ChangeShapes Go.WideShapes Go.ChangeAt Go.RowKit Go.Joins Go.Deep

/-- Every number of a column lies in the range of an int. -/
def okX : Nat → Ex → Prop
  | 0, _ => True
  | d + 1, e => (Lit.int .i64 e.n).wf = true ∧ ∀ a ∈ e.args, okX d a
theorem okX_mk {op n : Int} {v : Vl} {nm : ByteArray} {es : List Ex} (h : (Lit.int .i64 n).wf = true) (ho : ∀ m, ∀ e ∈ es, okX m e) : ∀ m, okX m ⟨op, n, v, nm, es⟩
  | 0 => trivial
  | m + 1 => ⟨h, ho m⟩
theorem colE_mk {op n : Int} {v : Vl} {nm : ByteArray} {es : List Ex} {b B : Nat} (h : b < B) (ho : ∀ m, (es.flatMap (colE m)).length ≤ b) : ∀ m, (colE m ⟨op, n, v, nm, es⟩).length ≤ B
  | 0 => Nat.zero_le _
  | m + 1 => by
    show (colH ⟨op, n, v, nm, es⟩ ++ es.flatMap (colE m)).length ≤ B
    have h1 := ho m
    have h2 : (colH ⟨op, n, v, nm, es⟩).length ≤ 1 := by unfold colH; split <;> simp
    rw [List.length_append]
    omega
theorem flat_bulk {H : Type} (D : Nat → DataW H) (q : Nat → Ex) (g : Ex → List Int) : ∀ l : List Nat, (∀ i ∈ l, (g (q i)).length ≤ Rows.uptoBulk (D i)) → ((l.map q).flatMap g).length ≤ Rows.uptoBulkAll (l.map D)
  | [], _ => by simp
  | j :: l, h => by
    have h1 := flat_bulk D q g l fun i hi => h i (List.mem_cons_of_mem _ hi)
    have h2 := h j List.mem_cons_self
    simp only [List.map_cons, Rows.uptoBulkAll, List.flatMap_cons, List.length_append]
    omega
section
variable {H : Type} {enc : TypeId × Value → H} {W : World} {base : Nat}
set_option maxRecDepth 100000 in
/-- The own fields of an expression, and its arguments' slice. -/
theorem open_fieldsC {fuel : Nat} {cs : List Value} {x : DataW H × List MemPlace} (hf : DataW.trod enc Tryz.prog W 0 (fun _ => true) true fuel 73 cs = some x) :
    ∃ (op n k m : Int) (s nm : ByteArray) (u : Value) (f : Nat) (dd : DataW H) (pp : List MemPlace), (Lit.int .i64 n).wf = true ∧ cs = [.int .i64 op, .int .i64 n, .int .i64 k, .int .i64 m, .string s, .string nm, u] ∧
      DataW.trod enc Tryz.prog W 0 (fun _ => true) true f 25 [u] = some (dd, pp) ∧ Rows.uptoBulk dd < Rows.uptoBulk x.1 := by
  obtain ⟨xs, n', _, hxy, hcl, hxl, hfl⟩ := DataW.trod_struct Tryz.underlying73 hf
  rw [cellsExp] at hcl
  match xs, hxl, cs, hcl with
  | [y0, y1, y2, y3, y4], _, [v0, v1, v2, v3, v4, v5, v6], _ =>
    have g0 := hfl 0 _ rfl
    have g1 := hfl 1 _ rfl
    have g2 := hfl 2 _ rfl
    have g3 := hfl 3 _ rfl
    have g4 := hfl 4 _ rfl
    simp [cellsIntX, cellsStrX, cellsValX, cellsExps] at g0 g1 g2 g3 g4
    obtain ⟨a0, e0, _⟩ := DataW.trod_int Tryz.underlying3 g0
    obtain ⟨a1, e1, _, hw1⟩ := DataW.trod_int Tryz.underlying3 g1
    obtain ⟨a3, e3, _⟩ := DataW.trod_string Tryz.underlying9 g3
    obtain ⟨zs, n2, _, _, hzc, hzl, hgl⟩ := DataW.trod_struct Tryz.underlying31 g2
    match zs, hzl with
    | [z0, z1, z2], _ =>
      have k0 := hgl 0 _ rfl
      have k1 := hgl 1 _ rfl
      have k2 := hgl 2 _ rfl
      simp [cellsIntX, cellsStrX] at k0 k1 k2
      obtain ⟨b0, f0, _⟩ := DataW.trod_int Tryz.underlying3 k0
      obtain ⟨b1, f1, _⟩ := DataW.trod_int Tryz.underlying3 k1
      obtain ⟨b2, f2, _⟩ := DataW.trod_string Tryz.underlying9 k2
      simp at e0 e1 e3 f0 f1 f2
      subst e0 e1 e3 f0 f1 f2
      obtain ⟨y4a, y4b⟩ := y4
      refine ⟨a0, a1, b0, b1, b2, a3, v6, n', y4a, y4b, hw1, rfl, g4, ?_⟩
      have hd : x.1 = .agg [y0.1, y1.1, y2.1, y3.1, y4a] := by simpa using congrArg Prod.fst hxy
      rw [hd]
      simp only [Rows.uptoBulk, Rows.uptoBulkAll]
      omega
set_option maxRecDepth 100000 in
theorem open_exprsC : ∀ (N fuel : Nat) (u : Value) (d : DataW H) (p : List MemPlace), Rows.uptoBulk d ≤ N → N ≤ 1048576 → DataW.trod enc Tryz.prog W 0 (fun _ => true) true fuel 25 [u] = some (d, p) →
    ∃ es : List Ex, RdE W 0 W.heap.size N u es ∧ (∀ m, ∀ e ∈ es, okX m e) ∧ ∀ m, (es.flatMap (colE m)).length ≤ Rows.uptoBulk d
  | 0, _, _, d, _, hN, _, _ => by have := bulk_posX d; omega
  | N + 1, fuel, u, d, p, hN, hbig, hf => by
    rcases open_slice Tryz.underlying25 hf with ⟨hcs, _⟩ | ⟨a, len, cap, m, n, D, Pl, hcs, _, hl, hm, hmm, hxx, hx⟩
    · injection hcs with hcs _
      subst hcs
      exact ⟨[], ⟨none, 0, rfl, by simp, by simp⟩, by simp, by simp⟩
    · injection hcs with hcs _
      subst hcs
      rw [if_pos rfl] at hmm
      subst hmm
      have hd : d = .slice ((List.range len).map D) ((List.range (m - len)).map fun j => D (len + j)) := congrArg Prod.fst hxx
      have hlen : len ≤ Rows.uptoBulkAll ((List.range len).map D) := by have := bulk_lenX D (List.range len); rwa [List.length_range] at this
      have hsum : Rows.uptoBulkAll ((List.range len).map D) < Rows.uptoBulk d := by rw [hd]; simp only [Rows.uptoBulk]; omega
      have each : ∀ i, i < len → ∃ q : Ex × Value, ExC W (a.add (i * 7)) q.1 q.2 ∧ RdE W 0 W.heap.size N q.2 q.1.args ∧ (∀ m, okX m q.1) ∧ ∀ m, (colE m q.1).length ≤ Rows.uptoBulk (D i) := by
        intro i hi
        obtain ⟨cs', hc, ht⟩ := hx i (by omega)
        rw [cellsExp] at hc
        obtain ⟨_, hcl, hat⟩ := World.cells?_some hc
        obtain ⟨op, n1, k, m1, s, nm, w6, f, dd, pp, hwn, rfl, hg, hlt⟩ := open_fieldsC ht
        have hi2 := bulk_memX D (List.range len) i (List.mem_range.2 hi)
        obtain ⟨es, hes, hok, hcl⟩ := open_exprsC N f w6 dd pp (by dsimp only at hlt; omega) (by omega) hg
        refine ⟨(⟨op, n1, (k, m1, s), nm, es⟩, w6), ?_, hes, fun m => okX_mk hwn hok m, fun m => colE_mk (Nat.lt_of_le_of_lt (Nat.le_refl _) hlt) hcl m⟩
        have c0 := hat 0 (by omega)
        have c1 := hat 1 (by omega)
        have c2 := hat 2 (by omega)
        have c3 := hat 3 (by omega)
        have c4 := hat 4 (by omega)
        have c5 := hat 5 (by omega)
        have c6 := hat 6 (by omega)
        have ea : ∀ j, j ≠ 0 → (a.add (i * 7)).add j = ⟨(a.add (i * 7)).block, (a.add (i * 7)).off + j, none⟩ := fun j hj => by unfold Addr.add; rw [if_neg hj]
        rw [show (a.add (i * 7)).add 0 = a.add (i * 7) by unfold Addr.add; simp] at c0
        rw [ea 1 (by decide)] at c1
        rw [ea 2 (by decide)] at c2
        rw [ea 3 (by decide)] at c3
        rw [ea 4 (by decide)] at c4
        rw [ea 5 (by decide)] at c5
        rw [ea 6 (by decide)] at c6
        exact ⟨by simpa using c0, by simpa using c1, by simpa using c2, by simpa using c3, by simpa using c4, by simpa using c5, by simpa using c6⟩
      haveI : Inhabited (Ex × Value) := ⟨(⟨0, 0, (0, 0, ⟨#[]⟩), ⟨#[]⟩, []⟩, undef)⟩
      obtain ⟨q, hq⟩ := choose_lt each
      refine ⟨(List.range len).map fun i => (q i).1, ⟨some a, _, by rw [List.length_map, List.length_range], by rw [List.length_map, List.length_range]; omega, fun k e hk => ?_⟩, fun m e he => ?_, fun m => ?_⟩
      rotate_left
      · obtain ⟨i, hi, rfl⟩ := List.mem_map.1 he
        exact (hq i (List.mem_range.1 hi)).2.2.1 m
      · have h := flat_bulk D (fun i => (q i).1) (colE m) (List.range len) (fun i hi => (hq i (List.mem_range.1 hi)).2.2.2 m)
        omega
      obtain ⟨hk1, hk2⟩ := List.getElem?_eq_some_iff.1 hk
      simp at hk1 hk2
      subst hk2
      obtain ⟨g0, g1, _⟩ := hq k hk1
      have hb := cell_ltX g0.1
      rw [add_blk] at hb
      exact ⟨a, (q k).2, rfl, Nat.zero_le _, hb, g0, g1⟩
end
end Go.Proofs.YteihjneeiojgaaaGreat
/-
  The reference's key: what it answers. Conditions: none.
-/
namespace Go.Proofs.YteihjneeiojgaaaGreat
set_option maxRecDepth 100000
set_option linter.unusedVariables false
set_option linter.unusedSimpArgs false
open Go.RowKit

set_option maxRecDepth 100000 in
set_option maxHeartbeats 12800000 in
theorem rTKey_any (nm vc vk vf vx : Value) (cs : List Cl) (ks : List Int) (w : World) (L L2 : Nat) (hc : RdK w L w.heap.size vc cs) (hk : RdI w L2 w.heap.size vk ks) :
    Calls Tryz.prog 39 #[.agg #[nm, vc, vk, vf, vx]] w fun e w' => e = .returned (.int .i64 (keyE cs ks)) ∧ Below w.heap.size w w' := by
  obtain ⟨A, c, rfl, hl1, hc1⟩ := hc
  obtain ⟨A2, c2, rfl, hl2, hc2⟩ := hk
  have HC := Lib.hid hc1
  have HC2 := Lib.hid hc2
  have HB1 := Lib.hid (bel_mark w (.cells #[nm, .slice A cs.length c, .slice A2 ks.length c2, vf, vx] 27))
  have HO1 := Lib.hid (Own.new w 27 #[nm, .slice A cs.length c, .slice A2 ks.length c2, vf, vx])
  have HX := Lib.hid (fun (i : Int) (W : World) => rExists_any nm (.slice A2 ks.length c2) vf vx A cs.length c i W)
  have d2 := HO1.out.cell 2
  clear hc1 hc2
  by_cases hz : ks.length = 0
  · have hzi : ((ks.length : Int) == 0) = true := by rw [beq_iff_eq]; omega
    have HF := Lib.hid (show keyE cs ks = 25 from if_pos hz)
    clear hz
    go_enter Tryz.func39, Tryz.ntmps39
    go_wp2
    go_ret
    exact ⟨(by rw [HF.out]; try rfl), HB1.out⟩
  have hzi : ((ks.length : Int) == 0) = false := by rw [beq_eq_false_iff_ne]; omega
  have HE := Lib.hid (show keyE cs ks = keyT cs (-1) (ks.drop 0) from if_neg hz)
  clear hz
  go_enter Tryz.func39, Tryz.ntmps39
  go_wp2_with fail
  go_loopw [3] (fun i wr => ∃ (k : Nat) (y : Int), k ≤ ks.length ∧ i = .int .i64 k ∧ Hid ((k = 0 → y = -1) ∧ (∀ j, k = j + 1 → ks[j]? = some y ∧ 0 ≤ y)) ∧ Hid (keyE cs ks = keyT cs y (ks.drop k)) ∧ Hid (Own wr w.heap.size 27 #[nm, .slice A cs.length c, .slice A2 ks.length c2, vf, vx]) ∧ Below w.heap.size w wr) (fun i _ => ks.length - (intOf i).toNat)
  case atStart => exact ⟨0, -1, Nat.zero_le _, rfl, Lib.hid ⟨fun _ => rfl, fun j h => by omega⟩, HE, HO1, HB1.out⟩
  case round =>
    obtain ⟨k, y, hk, rfl, HY, HR, HO, hbr⟩ := hrel
    have hbz := hbr.size
    clear d2 HE HO1 HB1
    obtain ⟨d0, d1, d2, d3, d4⟩ := HO.out.five
    by_cases hlt : k < ks.length
    · have hki : (k : Int) < ks.length := by omega
      obtain ⟨ad2, rfl, _, hab2, b0⟩ := HC2.out k _ (List.getElem?_eq_getElem hlt)
      have hcd := keyT_drop cs y (List.getElem?_eq_getElem hlt)
      rw [← HR.out] at hcd
      have hki2 := List.getElem?_eq_getElem hlt
      generalize ks[k] = z at *
      have HKI := Lib.hid hki2
      have f0 := (hbr.cell (p := ad2.add k) (by rw [add_block]; exact hab2)).trans b0
      have F0 := Lib.hid (show ∀ p : After wr, p.w.cell? (ad2.add k) = some (.int .i64 z) from after_cell (by rw [add_block]; omega) f0)
      have T0 := Lib.hid (show ∀ p : After wr, p.w.cell? ⟨w.heap.size, 0, none⟩ = some nm from after_cell HO.out.lt d0)
      have T1 := Lib.hid (show ∀ p : After wr, p.w.cell? ⟨w.heap.size, 1, none⟩ = some (.slice A cs.length c) from after_cell HO.out.lt d1)
      have T2 := Lib.hid (show ∀ p : After wr, p.w.cell? ⟨w.heap.size, 2, none⟩ = some (.slice (some ad2) ks.length c2) from after_cell HO.out.lt d2)
      have T3 := Lib.hid (show ∀ p : After wr, p.w.cell? ⟨w.heap.size, 3, none⟩ = some vf from after_cell HO.out.lt d3)
      have T4 := Lib.hid (show ∀ p : After wr, p.w.cell? ⟨w.heap.size, 4, none⟩ = some vx from after_cell HO.out.lt d4)
      have HCD := Lib.hid hcd
      clear b0 hcd hki2 f0 d0 d1 d3 d4
      by_cases hex : exiB cs.length z = true
      rotate_left
      · have hex : exiB cs.length z = false := by simpa using hex
        have hzz : z ≤ y ∨ (cs.length : Int) ≤ z := by
          unfold exiB at hex
          by_cases h0 : 0 ≤ z
          · rw [decide_eq_true h0, Bool.true_and] at hex
            exact .inr (by have := of_decide_eq_false hex; omega)
          · refine .inl ?_
            rcases Nat.eq_zero_or_pos k with hk0 | hk0
            · have := HY.out.1 hk0; omega
            · obtain ⟨j, rfl⟩ : ∃ j, k = j + 1 := ⟨k - 1, by omega⟩
              have := (HY.out.2 j rfl).2; omega
        have HF := Lib.hid (HCD.out.trans (if_pos hzz))
        have HXF := Lib.hid (show ∀ W, Calls Tryz.prog 70 #[.agg #[nm, .slice A cs.length c, .slice (some ad2) ks.length c2, vf, vx], .int .i64 z] W fun e w' => e = .returned (.bool false) ∧ Below W.heap.size W w' from fun W => by have h := HX.out z W; rwa [hex] at h)
        clear hex hzz HCD HX
        go_wp2_with fail
        have t0 := T0.out
        have t1 := T1.out
        have t2 := T2.out
        have t3 := T3.out
        have t4 := T4.out
        have q0 := F0.out
        clear d2
        (refine wp_region_after (by kernel_rfl) (by kernel_rfl) ?_; (repeat (go_big_quiet_step ((go_at_call 70; exact calls_after (HXF.out _))))); refine wpQuiet_nil ?_; intro wq hw0; obtain ⟨⟨wq0, hbq⟩, hw1⟩ := hw0; subst hw1; (try dsimp only))
        clear t0 t1 t2 t3 t4 q0
        go_wp2
        go_ret
        exact ⟨(by rw [HF.out]; try rfl), hbr.trans (hbq.mono hbz)⟩
      have HXT := Lib.hid (show ∀ W, Calls Tryz.prog 70 #[.agg #[nm, .slice A cs.length c, .slice (some ad2) ks.length c2, vf, vx], .int .i64 z] W fun e w' => e = .returned (.bool true) ∧ Below W.heap.size W w' from fun W => by have h := HX.out z W; rwa [hex] at h)
      obtain ⟨hz0, hz1⟩ : 0 ≤ z ∧ z < cs.length := by unfold exiB at hex; simpa using hex
      clear hex HX
      obtain ⟨j, rfl⟩ : ∃ j : Nat, z = j := ⟨z.toNat, by omega⟩
      have hjl : j < cs.length := by omega
      obtain ⟨ad, rfl, _, hab, a0, a1, a2⟩ := HC.out j _ (List.getElem?_eq_getElem hjl)
      have e2 := (hbr.cell (p := ⟨(ad.add (j * 3)).block, (ad.add (j * 3)).off + 2, none⟩) (by show (ad.add (j * 3)).block < _; rw [add_block]; exact hab)).trans a2
      have E2 := Lib.hid (show ∀ p : After wr, p.w.cell? ⟨(ad.add (j * 3)).block, (ad.add (j * 3)).off + 2, none⟩ = some (.bool cs[j].2.2) from after_cell (by show (ad.add (j * 3)).block < _; rw [add_block]; omega) e2)
      rw [Int.toNat_natCast, List.getElem?_eq_getElem hjl, Option.map_some, Option.getD_some] at HCD
      generalize cs[j] = q at *
      obtain ⟨qn, qk, qb⟩ := q
      dsimp only at E2 HCD
      clear a0 a1 a2 e2
      rcases Nat.eq_zero_or_pos k with hk0 | hk0
      · subst hk0
        have hki2 : (0 : Int) < ks.length := by omega
        have e0 : ad2.add 0 = ad2 := rfl
        have F0 := Lib.hid (show ∀ p : After wr, p.w.cell? ad2 = some (.int .i64 (j : Int)) from fun p => by have h := F0.out p; rwa [e0] at h)
        have hzy : ¬ ((j : Int) ≤ y ∨ (cs.length : Int) ≤ (j : Int)) := fun h => h.elim (fun h => by have := HY.out.1 rfl; omega) (fun h => by omega)
        have HCD := Lib.hid (HCD.out.trans (if_neg hzy))
        clear hzy e0
        go_wp2_with fail
        have t0 := T0.out
        have t1 := T1.out
        have t2 := T2.out
        have t3 := T3.out
        have t4 := T4.out
        have q0 := F0.out
        clear d2
        (refine wp_region_after (by kernel_rfl) (by kernel_rfl) ?_; (repeat (go_big_quiet_step ((go_at_call 70; exact calls_after (HXT.out _))))); refine wpQuiet_nil ?_; intro wq hw0; obtain ⟨⟨wq0, hbq⟩, hw1⟩ := hw0; subst hw1; (try dsimp only))
        clear t0 t1 t2 t3 t4 q0
        have hup : ∀ {a : Addr} {v : Value}, (∀ p : After wr, p.w.cell? a = some v) → ∀ p : After wq, p.w.cell? a = some v := fun h p => h ⟨p.w, hbq.trans (p.h.mono hbq.size)⟩
        have HYN := Lib.hid (show (0 + 1 = 0 → (j : Int) = -1) ∧ (∀ i2, 0 + 1 = i2 + 1 → ks[i2]? = some (j : Int) ∧ 0 ≤ (j : Int)) from ⟨fun h => by omega, fun i2 hi => by
          have e : 0 = i2 := by omega
          rw [← e]
          exact ⟨HKI.out, by omega⟩⟩)
        have HBQ := Lib.hid (hbr.trans (hbq.mono hbz))
        have HOQ := Lib.hid (HO.out.below hbq HO.out.lt)
        have s0 := hup T1.out
        have s1 := hup T2.out
        have s2 := hup F0.out
        have s3 := hup E2.out
        clear hup hbq hbz
        go_wp2_with fail
        (refine wp_region_after (by kernel_rfl) (by kernel_rfl) ?_; (repeat (go_big_quiet_step (fail))); refine wpQuiet_nil ?_; intro wq2 hw0; obtain ⟨⟨wq0, hbq2⟩, hw1⟩ := hw0; subst hw1; (try dsimp only))
        have HB5 := Lib.hid (HBQ.out.trans (hbq2.mono HBQ.out.size))
        have HO5 := Lib.hid (HOQ.out.below hbq2 HOQ.out.lt)
        clear s0 s1 s2 s3 hbq2
        cases qb
        · have HF := Lib.hid (HCD.out.trans (if_neg (by decide)))
          clear HCD
          go_wp2
          go_roundw
          case rel => exact ⟨0 + 1, (j : Int), by omega, by go_num, HYN, HF, HO5, HB5.out⟩
          case measure => simp [intOf]; omega
        · have HF := Lib.hid (HCD.out.trans (if_pos rfl))
          clear HCD
          go_wp2
          go_ret
          exact ⟨(by rw [HF.out]; try rfl), HB5.out⟩
      · obtain ⟨i, rfl⟩ : ∃ i, k = i + 1 := ⟨k - 1, by omega⟩
        have hki2 : (i : Int) + 1 < ks.length := by omega
        have e0 : ad2.add (i + 1) = ⟨ad2.block, ad2.off + (i + 1), none⟩ := by unfold Addr.add; rw [if_neg (by omega)]
        have F0 := Lib.hid (show ∀ p : After wr, p.w.cell? ⟨ad2.block, ad2.off + (i + 1), none⟩ = some (.int .i64 (j : Int)) from fun p => by have h := F0.out p; rwa [e0] at h)
        obtain ⟨hyi, hy0⟩ := HY.out.2 i rfl
        obtain ⟨ad3, e3, _, hab3, b3⟩ := HC2.out i _ hyi
        injection e3 with e3
        subst e3
        have F1 := Lib.hid (show ∀ p : After wr, p.w.cell? (ad2.add i) = some (.int .i64 y) from after_cell (by rw [add_block]; omega) ((hbr.cell (p := ad2.add i) (by rw [add_block]; exact hab3)).trans b3))
        clear b3 hk0 e0
        by_cases hle : (j : Int) ≤ y
        · have HF := Lib.hid (HCD.out.trans (if_pos (.inl hle)))
          clear HCD hyi
          go_wp2_with fail
          have t0 := T0.out
          have t1 := T1.out
          have t2 := T2.out
          have t3 := T3.out
          have t4 := T4.out
          have q0 := F0.out
          have q1 := F1.out
          clear d2
          (refine wp_region_after (by kernel_rfl) (by kernel_rfl) ?_; (repeat (go_big_quiet_step ((go_at_call 70; exact calls_after (HXT.out _))))); refine wpQuiet_nil ?_; intro wq hw0; obtain ⟨⟨wq0, hbq⟩, hw1⟩ := hw0; subst hw1; (try dsimp only))
          clear t0 t1 t2 t3 t4 q0 q1
          go_wp2
          go_ret
          exact ⟨(by rw [HF.out]; try rfl), hbr.trans (hbq.mono hbz)⟩
        · have HCD := Lib.hid (HCD.out.trans (if_neg (fun h => h.elim hle (fun h => by omega))))
          clear hyi
          go_wp2_with fail
          have t0 := T0.out
          have t1 := T1.out
          have t2 := T2.out
          have t3 := T3.out
          have t4 := T4.out
          have q0 := F0.out
          have q1 := F1.out
          clear d2
          (refine wp_region_after (by kernel_rfl) (by kernel_rfl) ?_; (repeat (go_big_quiet_step ((go_at_call 70; exact calls_after (HXT.out _))))); refine wpQuiet_nil ?_; intro wq hw0; obtain ⟨⟨wq0, hbq⟩, hw1⟩ := hw0; subst hw1; (try dsimp only))
          clear t0 t1 t2 t3 t4 q0 q1
          have hup : ∀ {a : Addr} {v : Value}, (∀ p : After wr, p.w.cell? a = some v) → ∀ p : After wq, p.w.cell? a = some v := fun h p => h ⟨p.w, hbq.trans (p.h.mono hbq.size)⟩
          have HYN := Lib.hid (show ((i + 1) + 1 = 0 → (j : Int) = -1) ∧ (∀ i2, (i + 1) + 1 = i2 + 1 → ks[i2]? = some (j : Int) ∧ 0 ≤ (j : Int)) from ⟨fun h => by omega, fun i2 hi => by
          have e : (i + 1) = i2 := by omega
          rw [← e]
          exact ⟨HKI.out, by omega⟩⟩)
          have HBQ := Lib.hid (hbr.trans (hbq.mono hbz))
          have HOQ := Lib.hid (HO.out.below hbq HO.out.lt)
          have s0 := hup T1.out
          have s1 := hup T2.out
          have s2 := hup F0.out
          have s3 := hup E2.out
          clear hup hbq hbz
          go_wp2_with fail
          (refine wp_region_after (by kernel_rfl) (by kernel_rfl) ?_; (repeat (go_big_quiet_step (fail))); refine wpQuiet_nil ?_; intro wq2 hw0; obtain ⟨⟨wq0, hbq2⟩, hw1⟩ := hw0; subst hw1; (try dsimp only))
          have HB5 := Lib.hid (HBQ.out.trans (hbq2.mono HBQ.out.size))
          have HO5 := Lib.hid (HOQ.out.below hbq2 HOQ.out.lt)
          clear s0 s1 s2 s3 hbq2
          cases qb
          · have HF := Lib.hid (HCD.out.trans (if_neg (by decide)))
            clear HCD
            go_wp2
            go_roundw
            case rel => exact ⟨(i + 1) + 1, (j : Int), by omega, by go_num, HYN, HF, HO5, HB5.out⟩
            case measure => simp [intOf]; omega
          · have HF := Lib.hid (HCD.out.trans (if_pos rfl))
            clear HCD
            go_wp2
            go_ret
            exact ⟨(by rw [HF.out]; try rfl), HB5.out⟩
    · have hki : ¬ (k : Int) < ks.length := by omega
      have HF := Lib.hid (show keyE cs ks = 0 by rw [HR.out, List.drop_eq_nil_of_le (show ks.length ≤ k by omega)]; rfl)
      clear d0 d1 d3 d4
      go_wp2
      go_ret
      exact ⟨(by rw [HF.out]; try rfl), hbr⟩
end Go.Proofs.YteihjneeiojgaaaGreat
/-
  The reference's foreign: what it answers. Conditions: lengths.
-/
namespace Go.Proofs.YteihjneeiojgaaaGreat
set_option maxRecDepth 100000
set_option linter.unusedVariables false
set_option linter.unusedSimpArgs false
open Go.RowKit

def frgO (n : Int) (zs : List Int) (s : ByteArray) : Int := if nameS s.data.toList = false then 1 else if zs.length = 0 ∨ difL n [] zs = false then 25 else 0
theorem exiB_not {n : Nat} {z : Int} (h : exiB n z = false) : z < 0 ∨ (n : Int) ≤ z := by
  unfold exiB at h
  by_cases h0 : 0 ≤ z
  · rw [decide_eq_true h0, Bool.true_and] at h
    exact .inr (by have := of_decide_eq_false h; omega)
  · exact .inl (by omega)
theorem exiB_yes {n : Nat} {z : Int} (h : exiB n z = true) : 0 ≤ z ∧ z < n := by unfold exiB at h; simpa using h
set_option maxRecDepth 100000 in
set_option maxHeartbeats 12800000 in
theorem rForeign_any (nm vk vf vx u : Value) (A0 : Option Addr) (n c0 : Nat) (zs : List Int) (s : ByteArray) (w : World) (L : Nat) (hu : RdI w L w.heap.size u zs) :
    Calls Tryz.prog 71 #[.agg #[nm, .slice A0 n c0, vk, vf, vx], .agg #[u, .string s]] w fun e w' => e = .returned (.int .i64 (frgO n zs s)) ∧ Below w.heap.size w w' := by
  obtain ⟨A, c, rfl, hl, hc1⟩ := hu
  have HC := Lib.hid hc1
  have HO0 := Lib.hid (show Own ((w.alloc (.cells #[nm, .slice A0 n c0, vk, vf, vx] 27)).alloc (.cells #[.slice A zs.length c, .string s] 60)) w.heap.size 27 #[nm, .slice A0 n c0, vk, vf, vx] from (Own.new w _ _).alloc _)
  have HF0 := Lib.hid (show Own ((w.alloc (.cells #[nm, .slice A0 n c0, vk, vf, vx] 27)).alloc (.cells #[.slice A zs.length c, .string s] 60)) (w.heap.size + 1) 60 #[.slice A zs.length c, .string s] from own_two2 _)
  have HB0 := Lib.hid (show Below w.heap.size w ((w.alloc (.cells #[nm, .slice A0 n c0, vk, vf, vx] 27)).alloc (.cells #[.slice A zs.length c, .string s] 60)) from (bel_mark w _).trans ((bel_mark _ _).mono (by simp)))
  have HX := Lib.hid (fun (i : Int) (W : World) => rExists_any nm vk vf vx A0 n c0 i W)
  have HN := Lib.hid (fun W => rName_any s W)
  have HR := Lib.hid (show frgO n zs s = if nameS s.data.toList = false then 1 else if zs.length = 0 ∨ difL n [] zs = false then 25 else 0 from rfl)
  generalize frgO n zs s = R at *
  generalize nameS s.data.toList = bn at *
  have g1 := HF0.out.cell 1
  clear hc1
  cases bn
  · have HF := Lib.hid (HR.out.trans (if_pos rfl))
    go_enter Tryz.func71, Tryz.ntmps71
    go_wp2_with fail
    with_reducible refine (HN.out _).mono ?_
    rintro e w1 ⟨rfl, hb⟩
    go_wp2
    go_ret
    exact ⟨(by rw [HF.out]; try rfl), HB0.out.trans (hb.mono HB0.out.size)⟩
  have HR := Lib.hid (HR.out.trans (if_neg (by decide)))
  go_enter Tryz.func71, Tryz.ntmps71
  go_wp2_with fail
  with_reducible refine (HN.out _).mono ?_
  rintro e w1 ⟨rfl, hb⟩
  have HO1 := Lib.hid (HO0.out.below hb HO0.out.lt)
  have HF1 := Lib.hid (HF0.out.below hb HF0.out.lt)
  have HB1 := Lib.hid (HB0.out.trans (hb.mono HB0.out.size))
  have g0 := HF1.out.cell 0
  clear HO0 HF0 HB0 HN hb g1
  by_cases hz : zs.length = 0
  · have hzi : ((zs.length : Int) == 0) = true := by rw [beq_iff_eq]; omega
    have HF := Lib.hid (HR.out.trans (if_pos (.inl hz)))
    clear hz
    go_wp2
    go_ret
    exact ⟨(by rw [HF.out]; try rfl), HB1.out⟩
  have hzi : ((zs.length : Int) == 0) = false := by rw [beq_eq_false_iff_ne]; omega
  have HRF := Lib.hid (show difL n [] zs = false → R = 25 from fun h => HR.out.trans (if_pos (.inr h)))
  have HRT := Lib.hid (show difL n [] zs = true → R = 0 from fun h => HR.out.trans (if_neg (fun h2 => h2.elim hz (fun h3 => by rw [h] at h3; cases h3))))
  clear hz HR
  go_wp2_with fail
  go_loopw [5] (fun i' wr => ∃ i : Nat, i ≤ zs.length ∧ i' = .int .i64 i ∧ Hid (difL n [] zs = difL n (zs.take i) (zs.drop i)) ∧ Hid (Own wr w.heap.size 27 #[nm, .slice A0 n c0, vk, vf, vx]) ∧ Hid (Own wr (w.heap.size + 1) 60 #[.slice A zs.length c, .string s]) ∧ Below w.heap.size w wr) (fun i' _ => zs.length - (intOf i').toNat)
  case atStart => exact ⟨0, Nat.zero_le _, rfl, Lib.hid rfl, HO1, HF1, HB1.out⟩
  case round =>
    clear HO1 HF1 HB1 g0
    obtain ⟨i, hi, rfl, HD, HO, HFo, hbr⟩ := hrel
    have hbz := hbr.size
    have g0 := HFo.out.cell 0
    by_cases hlt : i < zs.length
    · have hii : (i : Int) < zs.length := by omega
      have hdi : decide ((i : Int) < zs.length) = true := decide_eq_true hii
      obtain ⟨ad, rfl, _, hab, a0⟩ := HC.out i _ (List.getElem?_eq_getElem hlt)
      have hcd := difL_drop (n := n) (List.getElem?_eq_getElem hlt)
      rw [← HD.out] at hcd
      have hzi2 := List.getElem?_eq_getElem hlt
      generalize zs[i] = z at *
      have HZI := Lib.hid hzi2
      have HCD := Lib.hid hcd
      have T0 : ∀ p : After wr, p.w.cell? ⟨w.heap.size, 0, none⟩ = some nm := after_cell HO.out.lt (HO.out.cell 0)
      have T1 : ∀ p : After wr, p.w.cell? ⟨w.heap.size, 1, none⟩ = some (.slice A0 n c0) := after_cell HO.out.lt (HO.out.cell 1)
      have T2 : ∀ p : After wr, p.w.cell? ⟨w.heap.size, 2, none⟩ = some vk := after_cell HO.out.lt (HO.out.cell 2)
      have T3 : ∀ p : After wr, p.w.cell? ⟨w.heap.size, 3, none⟩ = some vf := after_cell HO.out.lt (HO.out.cell 3)
      have T4 : ∀ p : After wr, p.w.cell? ⟨w.heap.size, 4, none⟩ = some vx := after_cell HO.out.lt (HO.out.cell 4)
      have F0 : ∀ p : After wr, p.w.cell? ⟨w.heap.size + 1, 0, none⟩ = some (.slice (some ad) zs.length c) := after_cell HFo.out.lt (HFo.out.cell 0)
      have E0 : ∀ p : After wr, p.w.cell? (ad.add i) = some (.int .i64 z) := after_cell (by rw [add_block]; omega) ((hbr.cell (p := ad.add i) (by rw [add_block]; exact hab)).trans a0)
      clear hcd hzi2
      cases hex : exiB n z
      · have hzz := exiB_not hex
        have HF := Lib.hid (HRF.out (HCD.out.trans (if_pos (hzz.elim .inl (fun h => .inr (.inl h))))))
        have HXF := Lib.hid (show ∀ W, Calls Tryz.prog 70 #[.agg #[nm, .slice A0 n c0, vk, vf, vx], .int .i64 z] W fun e w' => e = .returned (.bool false) ∧ Below W.heap.size W w' from fun W => by have h := HX.out z W; rwa [hex] at h)
        clear hzz hex HCD HX a0
        go_wp2_with fail
        clear g0
        (refine wp_region_after (by kernel_rfl) (by kernel_rfl) ?_; (repeat (go_big_quiet_step ((go_at_call 70; exact calls_after (HXF.out _))))); refine wpQuiet_nil ?_; intro wq hw0; obtain ⟨⟨wq0, hbq⟩, hw1⟩ := hw0; subst hw1; (try dsimp only))
        clear T0 T1 T2 T3 T4 F0 E0
        go_wp2
        go_ret
        exact ⟨(by rw [HF.out]; try rfl), hbr.trans (hbq.mono hbz)⟩
      have HZZ := Lib.hid (exiB_yes hex)
      have HXT := Lib.hid (show ∀ W, Calls Tryz.prog 70 #[.agg #[nm, .slice A0 n c0, vk, vf, vx], .int .i64 z] W fun e w' => e = .returned (.bool true) ∧ Below W.heap.size W w' from fun W => by have h := HX.out z W; rwa [hex] at h)
      clear hex
      go_wp2_with fail
      clear g0
      (refine wp_region_after (by kernel_rfl) (by kernel_rfl) ?_; (repeat (go_big_quiet_step ((go_at_call 70; exact calls_after (HXT.out _))))); refine wpQuiet_nil ?_; intro wq hw0; obtain ⟨⟨wq0, hbq⟩, hw1⟩ := hw0; subst hw1; (try dsimp only))
      have HOQ := Lib.hid (HO.out.below hbq HO.out.lt)
      have HFQ := Lib.hid (HFo.out.below hbq HFo.out.lt)
      have HBQ := Lib.hid (hbr.trans (hbq.mono hbz))
      have HA0 := Lib.hid a0
      clear T0 T1 T2 T3 T4 F0 E0 hbq hbr hbz HO HFo a0 HXT
      go_wp2_with fail
      go_loopw [6] (fun k' wr => ∃ k : Nat, k ≤ i ∧ k' = .int .i64 k ∧ Hid (z ∉ zs.take k) ∧ Hid (Own wr w.heap.size 27 #[nm, .slice A0 n c0, vk, vf, vx]) ∧ Hid (Own wr (w.heap.size + 1) 60 #[.slice (some ad) zs.length c, .string s]) ∧ Below w.heap.size w wr) (fun k' _ => i - (intOf k').toNat)
      case atStart => exact ⟨0, Nat.zero_le _, rfl, Lib.hid (by simp), HOQ, HFQ, HBQ.out⟩
      case round =>
        clear HOQ HFQ HBQ
        obtain ⟨k, hk, rfl, HM, HO, HFo, hbr⟩ := hrel
        have hbz := hbr.size
        by_cases hlk : k < i
        · have hkk : (k : Int) < (i : Int) := by omega
          have hkl : k < zs.length := by omega
          have hkl2 : (k : Int) < zs.length := by omega
          obtain ⟨ad3, e3, _, hab3, b0⟩ := HC.out k _ (List.getElem?_eq_getElem hkl)
          injection e3 with e3
          subst e3
          have htk : zs.take (k + 1) = zs.take k ++ [zs[k]] := by rw [List.take_add_one, List.getElem?_eq_getElem hkl]; rfl
          have hmem : zs[k] ∈ zs.take i := by
            have : (zs.take i)[k]? = some zs[k] := by rw [List.getElem?_take_of_lt hlk]; exact List.getElem?_eq_getElem hkl
            exact List.mem_of_getElem? this
          generalize zs[k] = y at *
          have HTK := Lib.hid htk
          have HMEM := Lib.hid hmem
          have F0 : ∀ p : After wr, p.w.cell? ⟨w.heap.size + 1, 0, none⟩ = some (.slice (some ad) zs.length c) := after_cell HFo.out.lt (HFo.out.cell 0)
          have E0 : ∀ p : After wr, p.w.cell? (ad.add i) = some (.int .i64 z) := after_cell (by rw [add_block]; omega) ((hbr.cell (p := ad.add i) (by rw [add_block]; exact hab)).trans HA0.out)
          have E1 : ∀ p : After wr, p.w.cell? (ad.add k) = some (.int .i64 y) := after_cell (by rw [add_block]; omega) ((hbr.cell (p := ad.add k) (by rw [add_block]; exact hab)).trans b0)
          clear htk hmem b0
          by_cases hyz : y = z
          · have HF := Lib.hid (HRF.out (HCD.out.trans (if_pos (.inr (.inr (by have h := HMEM.out; rwa [hyz] at h))))))
            have hyb : (y == z) = true := by rw [beq_iff_eq]; exact hyz
            clear hyz
            go_wp2_with fail
            (refine wp_region_after (by kernel_rfl) (by kernel_rfl) ?_; (repeat (go_big_quiet_step (fail))); refine wpQuiet_nil ?_; intro wq hw0; obtain ⟨⟨wq0, hbq⟩, hw1⟩ := hw0; subst hw1; (try dsimp only))
            clear F0 E0 E1
            go_wp2
            go_ret
            exact ⟨(by rw [HF.out]; try rfl), hbr.trans (hbq.mono hbz)⟩
          · have hyb : (y == z) = false := by rw [beq_eq_false_iff_ne]; exact hyz
            have HM2 := Lib.hid (show z ∉ zs.take (k + 1) from by
              rw [HTK.out, List.mem_append, List.mem_singleton]
              exact fun h => h.elim HM.out (fun h => hyz h.symm))
            clear hyz
            go_wp2_with fail
            (refine wp_region_after (by kernel_rfl) (by kernel_rfl) ?_; (repeat (go_big_quiet_step (fail))); refine wpQuiet_nil ?_; intro wq hw0; obtain ⟨⟨wq0, hbq⟩, hw1⟩ := hw0; subst hw1; (try dsimp only))
            have HOQ := Lib.hid (HO.out.below hbq HO.out.lt)
            have HFQ := Lib.hid (HFo.out.below hbq HFo.out.lt)
            have HBQ := Lib.hid (hbr.trans (hbq.mono hbz))
            clear F0 E0 E1 hbq
            go_wp2
            go_roundw
            case rel => exact ⟨k + 1, by omega, by go_num, HM2, HOQ, HFQ, HBQ.out⟩
            case measure => simp [intOf]; omega
        · have hkk : ¬ (k : Int) < (i : Int) := by omega
          have hek : k = i := by omega
          subst hek
          have HD2 := Lib.hid (HCD.out.trans (if_neg (fun h => h.elim (fun h => by have := HZZ.out.1; omega) (fun h => h.elim (fun h => by have := HZZ.out.2; omega) HM.out))))
          go_wp2
          go_roundw
          case rel => exact ⟨k + 1, by omega, by go_num, HD2, HO, HFo, hbr⟩
          case measure => simp [intOf]; omega
    · have hii : ¬ (i : Int) < zs.length := by omega
      have HF := Lib.hid (HRT.out (by rw [HD.out, List.drop_eq_nil_of_le (show zs.length ≤ i by omega)]; rfl))
      go_wp2
      go_ret
      exact ⟨(by rw [HF.out]; try rfl), hbr⟩
end Go.Proofs.YteihjneeiojgaaaGreat
