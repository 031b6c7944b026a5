import Derived.Test.YtjdbjnmnihnmhaaME
import Derived.Test.YtjdbjnmnihnmhaaMC
import Derived.Test.YtjdbjnmnihnmhaaMA
import Derived.Deep.Slices
import Derived.WalkKit
import Derived.WalkSpells
import Derived.WalkLawsBesides
import Derived.Deep.QuietTactic
import Derived.BigQuiet
import Derived.Handy
import Derived.Lib.Hide
/-
  Arguments that are expressions, opened, and how much they hold, as the second forms reckon it. Conditions: none.
-/
namespace Go.Proofs.Ytjdbjnmnihnmhaa
set_option maxRecDepth 100000
set_option linter.unusedVariables false
set_option linter.unusedSimpArgs false
open Go.ChangeShapes Go.WideShapes Go.ChangeAt Go.RowKit Go.Joins Go.Deep

theorem cellsExp : Try.prog.cellsOf 43 = 7 := by kernel_rfl
theorem cellsExps : Try.prog.cellsOf 25 = 1 := by kernel_rfl
theorem cellsIntX : Try.prog.cellsOf 3 = 1 := by kernel_rfl
theorem cellsStrX : Try.prog.cellsOf 9 = 1 := by kernel_rfl
theorem cellsValX : Try.prog.cellsOf 41 = 3 := by kernel_rfl
theorem cell_ltX {w : World} {a : Addr} {v : Value} (h : w.cell? a = some v) : a.block < w.heap.size := World.block_lt_of_cell? w a h
theorem bulk_posX {H : Type} (d : DataW H) : 1 ≤ Rows.uptoBulk d := by
  unfold Rows.uptoBulk
  split <;> omega
theorem bulk_lenX {H : Type} (D : Nat → DataW H) : ∀ l : List Nat, l.length ≤ Rows.uptoBulkAll (l.map D)
  | [] => by simp
  | j :: l => by
    have h1 := bulk_posX (D j)
    have h2 := bulk_lenX D l
    simp only [List.map_cons, Rows.uptoBulkAll, List.length_cons]
    omega
theorem bulk_memX {H : Type} (D : Nat → DataW H) : ∀ (l : List Nat) (i : Nat), i ∈ l → Rows.uptoBulk (D i) ≤ Rows.uptoBulkAll (l.map D)
  | j :: l, i, h => by
    simp only [List.map_cons, Rows.uptoBulkAll]
    rcases List.mem_cons.1 h with rfl | h
    · omega
    · have := bulk_memX D l i h; omega
section
variable {H : Type} {enc : TypeId × Value → H} {W : World} {base : Nat}
set_option maxRecDepth 100000 in
/-- The own fields of an expression, and its arguments' slice. -/
theorem open_fields {fuel : Nat} {cs : List Value} {x : DataW H × List MemPlace} (hf : DataW.trod enc Try.prog W 0 (fun _ => true) true fuel 43 cs = some x) :
    ∃ (op n k m : Int) (s nm : ByteArray) (u : Value) (f : Nat) (dd : DataW H) (pp : List MemPlace), cs = [.int .i64 op, .int .i64 n, .int .i64 k, .int .i64 m, .string s, .string nm, u] ∧
      DataW.trod enc Try.prog W 0 (fun _ => true) true f 25 [u] = some (dd, pp) ∧ Rows.uptoBulk dd < Rows.uptoBulk x.1 := by
  obtain ⟨xs, n', _, hxy, hcl, hxl, hfl⟩ := DataW.trod_struct Try.underlying43 hf
  rw [cellsExp] at hcl
  match xs, hxl, cs, hcl with
  | [y0, y1, y2, y3, y4], _, [v0, v1, v2, v3, v4, v5, v6], _ =>
    have g0 := hfl 0 _ rfl
    have g1 := hfl 1 _ rfl
    have g2 := hfl 2 _ rfl
    have g3 := hfl 3 _ rfl
    have g4 := hfl 4 _ rfl
    simp [cellsIntX, cellsStrX, cellsValX, cellsExps] at g0 g1 g2 g3 g4
    obtain ⟨a0, e0, _⟩ := DataW.trod_int Try.underlying3 g0
    obtain ⟨a1, e1, _⟩ := DataW.trod_int Try.underlying3 g1
    obtain ⟨a3, e3, _⟩ := DataW.trod_string Try.underlying9 g3
    obtain ⟨zs, n2, _, _, hzc, hzl, hgl⟩ := DataW.trod_struct Try.underlying41 g2
    match zs, hzl with
    | [z0, z1, z2], _ =>
      have k0 := hgl 0 _ rfl
      have k1 := hgl 1 _ rfl
      have k2 := hgl 2 _ rfl
      simp [cellsIntX, cellsStrX] at k0 k1 k2
      obtain ⟨b0, f0, _⟩ := DataW.trod_int Try.underlying3 k0
      obtain ⟨b1, f1, _⟩ := DataW.trod_int Try.underlying3 k1
      obtain ⟨b2, f2, _⟩ := DataW.trod_string Try.underlying9 k2
      simp at e0 e1 e3 f0 f1 f2
      subst e0 e1 e3 f0 f1 f2
      obtain ⟨y4a, y4b⟩ := y4
      refine ⟨a0, a1, b0, b1, b2, a3, v6, n', y4a, y4b, rfl, g4, ?_⟩
      have hd : x.1 = .agg [y0.1, y1.1, y2.1, y3.1, y4a] := by simpa using congrArg Prod.fst hxy
      rw [hd]
      simp only [Rows.uptoBulk, Rows.uptoBulkAll]
      omega
set_option maxRecDepth 100000 in
theorem open_exprs : ∀ (N fuel : Nat) (u : Value) (d : DataW H) (p : List MemPlace), Rows.uptoBulk d ≤ N → N ≤ 1048576 → DataW.trod enc Try.prog W 0 (fun _ => true) true fuel 25 [u] = some (d, p) →
    ∃ es : List Ex, RdE W 0 W.heap.size N u es
  | 0, _, _, d, _, hN, _, _ => by have := bulk_posX d; omega
  | N + 1, fuel, u, d, p, hN, hbig, hf => by
    rcases open_slice Try.underlying25 hf with ⟨hcs, _⟩ | ⟨a, len, cap, m, n, D, Pl, hcs, _, hl, hm, hmm, hxx, hx⟩
    · injection hcs with hcs _
      subst hcs
      exact ⟨[], none, 0, rfl, by simp, by simp⟩
    · injection hcs with hcs _
      subst hcs
      rw [if_pos rfl] at hmm
      subst hmm
      have hd : d = .slice ((List.range len).map D) ((List.range (m - len)).map fun j => D (len + j)) := congrArg Prod.fst hxx
      have hlen : len ≤ Rows.uptoBulkAll ((List.range len).map D) := by have := bulk_lenX D (List.range len); rwa [List.length_range] at this
      have hsum : Rows.uptoBulkAll ((List.range len).map D) < Rows.uptoBulk d := by rw [hd]; simp only [Rows.uptoBulk]; omega
      have each : ∀ i, i < len → ∃ q : Ex × Value, ExC W (a.add (i * 7)) q.1 q.2 ∧ RdE W 0 W.heap.size N q.2 q.1.args := by
        intro i hi
        obtain ⟨cs', hc, ht⟩ := hx i (by omega)
        rw [cellsExp] at hc
        obtain ⟨_, hcl, hat⟩ := World.cells?_some hc
        obtain ⟨op, n1, k, m1, s, nm, w6, f, dd, pp, rfl, hg, hlt⟩ := open_fields ht
        have hi2 := bulk_memX D (List.range len) i (List.mem_range.2 hi)
        obtain ⟨es, hes⟩ := open_exprs N f w6 dd pp (by dsimp only at hlt; omega) (by omega) hg
        refine ⟨(⟨op, n1, (k, m1, s), nm, es⟩, w6), ?_, hes⟩
        have c0 := hat 0 (by omega)
        have c1 := hat 1 (by omega)
        have c2 := hat 2 (by omega)
        have c3 := hat 3 (by omega)
        have c4 := hat 4 (by omega)
        have c5 := hat 5 (by omega)
        have c6 := hat 6 (by omega)
        have ea : ∀ j, j ≠ 0 → (a.add (i * 7)).add j = ⟨(a.add (i * 7)).block, (a.add (i * 7)).off + j, none⟩ := fun j hj => by unfold Addr.add; rw [if_neg hj]
        rw [show (a.add (i * 7)).add 0 = a.add (i * 7) by unfold Addr.add; simp] at c0
        rw [ea 1 (by decide)] at c1
        rw [ea 2 (by decide)] at c2
        rw [ea 3 (by decide)] at c3
        rw [ea 4 (by decide)] at c4
        rw [ea 5 (by decide)] at c5
        rw [ea 6 (by decide)] at c6
        exact ⟨by simpa using c0, by simpa using c1, by simpa using c2, by simpa using c3, by simpa using c4, by simpa using c5, by simpa using c6⟩
      haveI : Inhabited (Ex × Value) := ⟨(⟨0, 0, (0, 0, ⟨#[]⟩), ⟨#[]⟩, []⟩, undef)⟩
      obtain ⟨q, hq⟩ := choose_lt each
      refine ⟨(List.range len).map fun i => (q i).1, some a, _, by rw [List.length_map, List.length_range], by rw [List.length_map, List.length_range]; omega, fun k e hk => ?_⟩
      obtain ⟨hk1, hk2⟩ := List.getElem?_eq_some_iff.1 hk
      simp at hk1 hk2
      subst hk2
      obtain ⟨g0, g1⟩ := hq k hk1
      have hb := cell_ltX g0.1
      rw [add_blk] at hb
      exact ⟨a, (q k).2, rfl, Nat.zero_le _, hb, g0, g1⟩
/-- An argument that is an expression. -/
theorem open_expU {v : Value} {d : DataW H} {p : List MemPlace} (hv : Value.okWide Try.prog W .any base 43 v) (h : DataW.Trod enc Try.prog W 0 (fun _ => true) true 43 v d p) (hN : Rows.uptoBulk d ≤ 1048576) :
    ∃ (e : Ex) (A : Option Addr) (c : Nat), v = exV e (.slice A e.args.length c) ∧ RdE W 0 W.heap.size 1048576 (.slice A e.args.length c) e.args := by
  obtain ⟨cs, rfl, hsz⟩ := okWide_struct Try.underlying43 hv
  obtain ⟨fuel, hf⟩ := h
  obtain ⟨op, n1, k, m1, s, nm, w6, f, dd, pp, hcs, hg, hlt⟩ := open_fields hf
  obtain ⟨es, hes⟩ := open_exprs (Rows.uptoBulk dd) f w6 dd pp (Nat.le_refl _) (by dsimp only at hlt; omega) hg
  obtain ⟨A, c, rfl, _⟩ := hes.slice
  obtain ⟨l⟩ := cs
  simp only [Value.cells] at hcs
  refine ⟨⟨op, n1, (k, m1, s), nm, es⟩, A, c, ?_, hes.up (by dsimp only at hlt; omega)⟩
  unfold exV
  dsimp only
  exact congrArg (fun l => Value.agg l.toArray) hcs
end
end Go.Proofs.Ytjdbjnmnihnmhaa
