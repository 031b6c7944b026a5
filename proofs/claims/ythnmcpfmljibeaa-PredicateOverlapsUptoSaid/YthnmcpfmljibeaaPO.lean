import Derived.Test.YthnmcpfmljibeaaUE
import Derived.Test.YthnmcpfmljibeaaPA
import Derived.WalkKit
import Derived.WalkSpells
import Derived.WalkLawsBesides
import Derived.Deep.QuietTactic
import Derived.BigQuiet
import Derived.Handy
import Derived.Lib.Hide
/-
  Arguments that are expressions, opened: their numbers are ints, their conjuncts are few. Conditions: none. (Written by mkPdOc.py.)
-/
namespace Go.Proofs.Ythnmcpfmljibeaa
set_option maxRecDepth 100000
set_option linter.unusedVariables false
set_option linter.unusedSimpArgs false
open Go.ChangeShapes Go.WideShapes Go.ChangeAt Go.RowKit Go.Joins Go.Deep

theorem conjE_mk {op n : Int} {v : Vl} {nm : ByteArray} {es : List Ex} {b B : Nat} (h : b < B) (ho : ∀ m, (es.flatMap (conjE m)).length ≤ b) : ∀ m, (conjE m ⟨op, n, v, nm, es⟩).length ≤ B
  | 0 => by
    have : (conjE 0 ⟨op, n, v, nm, es⟩).length ≤ 1 := by unfold conjE; simp
    omega
  | m + 1 => by
    by_cases h1 : op = 5 ∧ wfX ⟨op, n, v, nm, es⟩ = true
    · rw [conjE_and m _ h1]
      have := ho m
      dsimp only
      omega
    · rw [conjE_leaf m _ h1]
      simp only [List.length_cons, List.length_nil]
      omega
theorem flat_bulkJ {H : Type} (D : Nat → DataW H) (q : Nat → Ex) (g : Ex → List Ex) : ∀ l : List Nat, (∀ i ∈ l, (g (q i)).length ≤ Rows.uptoBulk (D i)) → ((l.map q).flatMap g).length ≤ Rows.uptoBulkAll (l.map D)
  | [], _ => by simp
  | j :: l, h => by
    have h1 := flat_bulkJ D q g l fun i hi => h i (List.mem_cons_of_mem _ hi)
    have h2 := h j List.mem_cons_self
    simp only [List.map_cons, Rows.uptoBulkAll, List.flatMap_cons, List.length_append]
    omega
section
variable {H : Type} {enc : TypeId × Value → H} {W : World} {base : Nat}
set_option maxRecDepth 100000 in
theorem open_exprsJ : ∀ (N fuel : Nat) (u : Value) (d : DataW H) (p : List MemPlace), Rows.uptoBulk d ≤ N → N ≤ 1048576 → DataW.trod enc Try.prog W 0 (fun _ => true) true fuel 24 [u] = some (d, p) →
    ∃ es : List Ex, RdE W 0 W.heap.size N u es ∧ (∀ m, ∀ e ∈ es, okX m e) ∧ ∀ m, (es.flatMap (conjE m)).length ≤ Rows.uptoBulk d
  | 0, _, _, d, _, hN, _, _ => by have := bulk_posX d; omega
  | N + 1, fuel, u, d, p, hN, hbig, hf => by
    rcases open_slice Try.underlying24 hf with ⟨hcs, _⟩ | ⟨a, len, cap, m, n, D, Pl, hcs, _, hl, hm, hmm, hxx, hx⟩
    · injection hcs with hcs _
      subst hcs
      exact ⟨[], ⟨none, 0, rfl, by simp, by simp⟩, by simp, by simp⟩
    · injection hcs with hcs _
      subst hcs
      rw [if_pos rfl] at hmm
      subst hmm
      have hd : d = .slice ((List.range len).map D) ((List.range (m - len)).map fun j => D (len + j)) := congrArg Prod.fst hxx
      have hlen : len ≤ Rows.uptoBulkAll ((List.range len).map D) := by have := bulk_lenX D (List.range len); rwa [List.length_range] at this
      have hsum : Rows.uptoBulkAll ((List.range len).map D) < Rows.uptoBulk d := by rw [hd]; simp only [Rows.uptoBulk]; omega
      have each : ∀ i, i < len → ∃ q : Ex × Value, ExC W (a.add (i * 7)) q.1 q.2 ∧ RdE W 0 W.heap.size N q.2 q.1.args ∧ (∀ m, okX m q.1) ∧ ∀ m, (conjE m q.1).length ≤ Rows.uptoBulk (D i) := by
        intro i hi
        obtain ⟨cs', hc, ht⟩ := hx i (by omega)
        rw [cellsExp] at hc
        obtain ⟨_, hcl, hat⟩ := World.cells?_some hc
        obtain ⟨op, n1, k, m1, s, nm, w6, f, dd, pp, hwn, rfl, hg, hlt⟩ := open_fieldsC ht
        have hi2 := bulk_memX D (List.range len) i (List.mem_range.2 hi)
        obtain ⟨es, hes, hok, hcl⟩ := open_exprsJ N f w6 dd pp (by dsimp only at hlt; omega) (by omega) hg
        refine ⟨(⟨op, n1, (k, m1, s), nm, es⟩, w6), ?_, hes, fun m => okX_mk hwn hok m, fun m => conjE_mk (Nat.lt_of_le_of_lt (Nat.le_refl _) hlt) hcl m⟩
        have c0 := hat 0 (by omega)
        have c1 := hat 1 (by omega)
        have c2 := hat 2 (by omega)
        have c3 := hat 3 (by omega)
        have c4 := hat 4 (by omega)
        have c5 := hat 5 (by omega)
        have c6 := hat 6 (by omega)
        have ea : ∀ j, j ≠ 0 → (a.add (i * 7)).add j = ⟨(a.add (i * 7)).block, (a.add (i * 7)).off + j, none⟩ := fun j hj => by unfold Addr.add; rw [if_neg hj]
        rw [show (a.add (i * 7)).add 0 = a.add (i * 7) by unfold Addr.add; simp] at c0
        rw [ea 1 (by decide)] at c1
        rw [ea 2 (by decide)] at c2
        rw [ea 3 (by decide)] at c3
        rw [ea 4 (by decide)] at c4
        rw [ea 5 (by decide)] at c5
        rw [ea 6 (by decide)] at c6
        exact ⟨by simpa using c0, by simpa using c1, by simpa using c2, by simpa using c3, by simpa using c4, by simpa using c5, by simpa using c6⟩
      haveI : Inhabited (Ex × Value) := ⟨(⟨0, 0, (0, 0, ⟨#[]⟩), ⟨#[]⟩, []⟩, undef)⟩
      obtain ⟨q, hq⟩ := choose_lt each
      refine ⟨(List.range len).map fun i => (q i).1, ⟨some a, _, by rw [List.length_map, List.length_range], by rw [List.length_map, List.length_range]; omega, fun k e hk => ?_⟩, fun m e he => ?_, fun m => ?_⟩
      rotate_left
      · obtain ⟨i, hi, rfl⟩ := List.mem_map.1 he
        exact (hq i (List.mem_range.1 hi)).2.2.1 m
      · have h := flat_bulkJ D (fun i => (q i).1) (conjE m) (List.range len) (fun i hi => (hq i (List.mem_range.1 hi)).2.2.2 m)
        omega
      obtain ⟨hk1, hk2⟩ := List.getElem?_eq_some_iff.1 hk
      simp at hk1 hk2
      subst hk2
      obtain ⟨g0, g1, _⟩ := hq k hk1
      have hb := cell_ltX g0.1
      rw [add_blk] at hb
      exact ⟨a, (q k).2, rfl, Nat.zero_le _, hb, g0, g1⟩
/-- An argument that is an expression: its numbers are ints, its conjuncts are few. -/
theorem open_expJ {v : Value} {d : DataW H} {p : List MemPlace} (hv : Value.okWide Try.prog W .any base 26 v) (h : DataW.Trod enc Try.prog W 0 (fun _ => true) true 26 v d p) (hN : Rows.uptoBulk d ≤ 1048576) :
    ∃ (e : Ex) (A : Option Addr) (c : Nat), v = exV e (.slice A e.args.length c) ∧ RdE W 0 W.heap.size 1048576 (.slice A e.args.length c) e.args ∧ (∀ m, okX m e) ∧ ∀ m, (conjE m e).length ≤ Rows.uptoBulk d := by
  obtain ⟨cs, rfl, hsz⟩ := okWide_struct Try.underlying26 hv
  obtain ⟨fuel, hf⟩ := h
  obtain ⟨op, n1, k, m1, s, nm, w6, f, dd, pp, hwn, hcs, hg, hlt⟩ := open_fieldsC hf
  obtain ⟨es, hes, hok, hcl⟩ := open_exprsJ (Rows.uptoBulk dd) f w6 dd pp (Nat.le_refl _) (by dsimp only at hlt; omega) hg
  obtain ⟨A, c, rfl, _⟩ := hes.slice
  obtain ⟨l⟩ := cs
  simp only [Value.cells] at hcs
  refine ⟨⟨op, n1, (k, m1, s), nm, es⟩, A, c, ?_, hes.up (by dsimp only at hlt; omega), fun m => okX_mk hwn hok m, fun m => conjE_mk hlt hcl m⟩
  unfold exV
  dsimp only
  exact congrArg (fun l => Value.agg l.toArray) hcs
/-- An argument that is a list of expressions. -/
theorem open_expsJ {v : Value} {d : DataW H} {p : List MemPlace} (hv : Value.okWide Try.prog W .any base 24 v) (h : DataW.Trod enc Try.prog W 0 (fun _ => true) true 24 v d p) (hN : Rows.uptoBulk d ≤ 1048576) :
    ∃ ls : List Ex, RdE W 0 W.heap.size 1048576 v ls ∧ ∀ m, ∀ e ∈ ls, okX m e := by
  obtain ⟨a0, len0, cap0, rfl⟩ := okWide_slice Try.underlying24 hv
  obtain ⟨fuel, hf⟩ := h
  obtain ⟨es, hes, hok, _⟩ := open_exprsJ (Rows.uptoBulk d) fuel _ d p (Nat.le_refl _) hN hf
  exact ⟨es, hes.up hN, hok⟩
end
end Go.Proofs.Ythnmcpfmljibeaa
