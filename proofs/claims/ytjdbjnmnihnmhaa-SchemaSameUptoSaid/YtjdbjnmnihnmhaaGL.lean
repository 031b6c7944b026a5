import Derived.Test.YtjdbjnmnihnmhaaSG
import Derived.WalkKit
import Derived.WalkSpells
import Derived.WalkLawsBesides
import Derived.Deep.QuietTactic
import Derived.BigQuiet
import Derived.Handy
import Derived.Lib.Hide
/-
  How tables are opened with the lengths of all their lists. Conditions: none. (Written by mkScGc.py.)
-/
namespace Go.Proofs.Ytjdbjnmnihnmhaa
set_option maxRecDepth 100000
set_option linter.unusedVariables false
set_option linter.unusedSimpArgs false
open Go.ChangeShapes Go.WideShapes Go.ChangeAt Go.RowKit Go.Joins Go.Deep

section
variable {H : Type} {enc : TypeId × Value → H} {W : World} {base : Nat}
set_option maxRecDepth 100000 in
theorem open_forsL {fuel : Nat} {cs : List Value} {d : DataW H} {p : List MemPlace} (hf : DataW.trod enc Try.prog W 0 (fun _ => true) true fuel 24 cs = some (d, p)) :
    ∃ (v : Value) (fs : List Fk), cs = [v] ∧ RdF W 0 W.heap.size v fs ∧ fs.length ≤ Rows.uptoBulk d ∧ ∀ f ∈ fs, f.1.length ≤ Rows.uptoBulk d := by
  rcases open_slice Try.underlying24 hf with ⟨hcs, _⟩ | ⟨a, len, cap, m, n, D, Pl, hcs, _, hl, hm, hmm, hxx, hx⟩
  · subst hcs
    exact ⟨_, [], rfl, ⟨none, 0, rfl, by simp, by simp⟩, by simp, by simp⟩
  · subst hcs
    rw [if_pos rfl] at hmm
    subst hmm
    have hml := maxLen_le
    have each : ∀ i, i < len → ∃ q : Fk × Value, W.cell? (a.add (i * 2)) = some q.2 ∧ W.cell? ⟨(a.add (i * 2)).block, (a.add (i * 2)).off + 1, none⟩ = some (.string q.1.2) ∧ RdI W 0 W.heap.size q.2 q.1.1 ∧ q.1.1.length ≤ Rows.uptoBulk (D i) := by
      intro i hi
      obtain ⟨cs', hc, ht⟩ := hx i (by omega)
      rw [cellsFor] at hc
      obtain ⟨_, hcl, hat⟩ := World.cells?_some hc
      obtain ⟨xs, n', _, hxy, hcl2, hxl, hfl⟩ := DataW.trod_struct Try.underlying37 ht
      match xs, hxl, cs', hcl with
      | [y0, y1], _, [v0, v1], _ =>
        have g0 := hfl 0 _ rfl
        have g1 := hfl 1 _ rfl
        simp [cellsInts1, cellsStrT] at g0 g1
        obtain ⟨y0a, y0b⟩ := y0
        obtain ⟨u, zs, e0, h0, hzl⟩ := open_intsB g0
        have hDi : D i = .agg [y0a, y1.1] := by simpa using congrArg Prod.fst hxy
        injection e0 with e0 _
        subst e0
        obtain ⟨a1, e1, _⟩ := DataW.trod_string Try.underlying9 g1
        simp at e1
        subst e1
        have c0 := hat 0 (by omega)
        have c1 := hat 1 (by omega)
        refine ⟨((zs, a1), v0), ?_, ?_, h0, by rw [hDi]; simp only [Rows.uptoBulk, Rows.uptoBulkAll]; omega⟩
        · simpa [show (a.add (i * 2)).add 0 = a.add (i * 2) by unfold Addr.add; simp] using c0
        · rw [show (a.add (i * 2)).add 1 = ⟨(a.add (i * 2)).block, (a.add (i * 2)).off + 1, none⟩ by unfold Addr.add; rw [if_neg (by decide)]] at c1
          simpa using c1
    haveI : Inhabited (Fk × Value) := ⟨(([], ⟨#[]⟩), undef)⟩
    obtain ⟨q, hq⟩ := choose_lt each
    have hd : d = .slice ((List.range len).map D) ((List.range (m - len)).map fun j => D (len + j)) := congrArg Prod.fst hxx
    have hbl : Rows.uptoBulkAll ((List.range len).map D) < Rows.uptoBulk d := by rw [hd]; simp only [Rows.uptoBulk]; omega
    refine ⟨_, (List.range len).map fun i => (q i).1, rfl, ⟨some a, _, by rw [List.length_map, List.length_range], by rw [List.length_map, List.length_range]; omega, fun k f hk => ?_⟩, ?_, ?_⟩
    rotate_left
    · rw [List.length_map, List.length_range]
      have := bulk_lenX D (List.range len)
      rw [List.length_range] at this
      omega
    · intro f hf
      obtain ⟨i, hi, rfl⟩ := List.mem_map.1 hf
      have h1 := (hq i (List.mem_range.1 hi)).2.2.2
      have h2 := bulk_memX D (List.range len) i hi
      omega
    obtain ⟨hk1, hk2⟩ := List.getElem?_eq_some_iff.1 hk
    simp at hk1 hk2
    subst hk2
    obtain ⟨g0, g1, g2, _⟩ := hq k hk1
    have hb := cell_lt g0
    rw [add_block] at hb
    exact ⟨a, (q k).2, rfl, Nat.zero_le _, hb, g0, g1, g2⟩
set_option maxRecDepth 100000 in
theorem open_tabL {v : Value} {d : DataW H} {p : List MemPlace} (hv : Value.okWide Try.prog W .any base 27 v) (h : DataW.Trod enc Try.prog W 0 (fun _ => true) true 27 v d p) (hN : Rows.uptoBulk d ≤ 1048576) :
    ∃ (nm : ByteArray) (v1 v2 v3 v4 : Value) (cs : List Cl) (zs : List Int) (fs : List Fk) (es : List Ex), v = .agg #[.string nm, v1, v2, v3, v4] ∧ RdK W 0 W.heap.size v1 cs ∧ RdI W 0 W.heap.size v2 zs ∧ RdF W 0 W.heap.size v3 fs ∧ RdE W 0 W.heap.size (1048575 + 1) v4 es ∧ cs.length ≤ Rows.uptoBulk d ∧ zs.length ≤ Rows.uptoBulk d ∧ fs.length ≤ Rows.uptoBulk d ∧ ∀ f ∈ fs, f.1.length ≤ Rows.uptoBulk d := by
  obtain ⟨cs, rfl, hsz⟩ := okWide_struct Try.underlying27 hv
  rw [cellsTab] at hsz
  obtain ⟨l⟩ := cs
  match l, hsz with
  | [c0, c1, c2, c3, c4], _ =>
    obtain ⟨fuel, hf⟩ := h
    obtain ⟨xs, n', _, hxy, _, hxl, hfl⟩ := DataW.trod_struct Try.underlying27 hf
    match xs, hxl with
    | [y0, y1, y2, y3, y4], _ =>
      have g0 := hfl 0 _ rfl
      have g1 := hfl 1 _ rfl
      have g2 := hfl 2 _ rfl
      have g3 := hfl 3 _ rfl
      have g4 := hfl 4 _ rfl
      simp [cellsCols1, cellsInts1, cellsFors1, cellsStrT, cellsExps1, Value.cells] at g0 g1 g2 g3 g4
      obtain ⟨y1a, y1b⟩ := y1
      obtain ⟨y2a, y2b⟩ := y2
      obtain ⟨y3a, y3b⟩ := y3
      obtain ⟨y4a, y4b⟩ := y4
      obtain ⟨nm, e0, _⟩ := DataW.trod_string Try.underlying9 g0
      simp at e0
      subst e0
      obtain ⟨v1, ps, e1, h1, k1⟩ := open_colsB g1
      obtain ⟨v2, zs, e2, h2, k2⟩ := open_intsB g2
      obtain ⟨v3, fs, e3, h3, k3, k4⟩ := open_forsL g3
      injection e1 with e1 _
      injection e2 with e2 _
      injection e3 with e3 _
      subst e1 e2 e3
      have hd : d = .agg [y0.1, y1a, y2a, y3a, y4a] := by simpa using congrArg Prod.fst hxy
      have hy4 : Rows.uptoBulk y4a ≤ 1048575 := by rw [hd] at hN; simp only [Rows.uptoBulk, Rows.uptoBulkAll] at hN; omega
      obtain ⟨es, h4⟩ := open_exprs (Rows.uptoBulk y4a) n' c4 y4a y4b (Nat.le_refl _) (by omega) g4
      refine ⟨nm, c1, c2, c3, c4, ps, zs, fs, es, rfl, h1, h2, h3, h4.up (by omega), ?_, ?_, ?_, fun f hf => ?_⟩
      · rw [hd]; simp only [Rows.uptoBulk, Rows.uptoBulkAll]; omega
      · rw [hd]; simp only [Rows.uptoBulk, Rows.uptoBulkAll]; omega
      · rw [hd]; simp only [Rows.uptoBulk, Rows.uptoBulkAll]; omega
      · have := k4 f hf
        rw [hd]; simp only [Rows.uptoBulk, Rows.uptoBulkAll]; omega
end
end Go.Proofs.Ytjdbjnmnihnmhaa
