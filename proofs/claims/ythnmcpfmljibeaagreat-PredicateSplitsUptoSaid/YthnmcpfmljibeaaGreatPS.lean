import Derived.Test.YthnmcpfmljibeaaGreatRR
import Derived.Test.YthnmcpfmljibeaaGreatPC
import Derived.Test.YthnmcpfmljibeaaGreatUB
import Derived.WalkKit
import Derived.WalkSpells
import Derived.WalkLawsBesides
import Derived.Deep.QuietTactic
import Derived.BigQuiet
import Derived.Handy
import Derived.Lib.Hide
import Derived.Test.YthnmcpfmljibeaaGreatPO
/-
  A closure lets one list of trees grow, beside others: what is new, what stays. Conditions: lengths. (Written by mkPdS.py.)
-/
namespace Go.Proofs.YthnmcpfmljibeaaGreat
set_option maxRecDepth 100000
set_option linter.unusedVariables false
set_option linter.unusedSimpArgs false
open Go.RowKit

/-- On which side of a column lie the columns of an expression: before it, behind it, on both. -/
def sidL (n : Int) (l : List Int) : Nat := if l = [] then 0 else if l.getLastD 0 < n then 0 else if n ≤ l.headD 0 then 1 else 2
/-- One list (in the box g, its row v, its trees ps) has grown by the tree e; every other block that was there is as it was, but g and the row's own. -/
def UpdX (W w' : World) (g base d : Nat) (v : Value) (ps : List ExU) (e : Ex) : Prop :=
  ∃ (v' : Value) (p : ExU), p.1 = e ∧ Own w' g 24 #[v'] ∧ w'.ownsRow base 26 7 v' (ps ++ [p]).length (flatE (ps ++ [p])) ∧ KidsX w' W.heap.size v' d [p] ∧ (∀ b, v'.ownBlock = some b → v.ownBlock = some b ∨ W.heap.size ≤ b) ∧
    (∀ b, b < W.heap.size → b ≠ g → v.ownBlock ≠ some b → w'.heap[b]? = W.heap[b]?) ∧ Below g W w'
set_option maxHeartbeats 6400000 in
theorem sp_doneA {w6 W : World} {g base g6 cap d : Nat} {ps : List ExU} {q : ExU} {v v0 : Value} (op n k1 k2 : Int) (s nm : ByteArray) (es : List Ex) (A4 : Option Addr) (c4 : Nat) (HG : Own w6 g 24 #[v]) (HR : w6.ownsRow base 26 7 (.slice (some ⟨g6, 0, none⟩) (ps.length + 1) cap) (ps.length + 1) (flatE (ps ++ [q]))) (HK : KidsX w6 W.heap.size (.slice (some ⟨g6, 0, none⟩) (ps.length + 1) cap) d [((⟨op, n, (k1, k2, s), nm, es⟩, .slice A4 es.length c4) : ExU)]) (HB : Below g W w6) (HP : ∀ b, b < W.heap.size → v0.ownBlock ≠ some b → w6.heap[b]? = W.heap[b]?) (hgb : g < base) (hbz : base ≤ W.heap.size) (hb6 : base ≤ g6) (hv6 : v0.ownBlock = some g6 ∨ W.heap.size ≤ g6) :
    UpdX W ((((((((w6.setCell ⟨g6, ps.length * 7, none⟩ (.int .i64 op)).setCell ⟨g6, ps.length * 7 + 1, none⟩ (.int .i64 n)).setCell ⟨g6, ps.length * 7 + 2, none⟩ (.int .i64 k1)).setCell ⟨g6, ps.length * 7 + 3, none⟩ (.int .i64 k2)).setCell ⟨g6, ps.length * 7 + 4, none⟩ (.string s)).setCell ⟨g6, ps.length * 7 + 5, none⟩ (.string nm)).setCell ⟨g6, ps.length * 7 + 6, none⟩ (.slice A4 es.length c4)).setCell ⟨g, 0, none⟩ (.slice (some ⟨g6, 0, none⟩) (ps.length + 1) cap)) g base d v0 ps ⟨op, n, (k1, k2, s), nm, es⟩ := by
  refine ⟨(.slice (some ⟨g6, 0, none⟩) (ps.length + 1) cap), ((⟨op, n, (k1, k2, s), nm, es⟩, .slice A4 es.length c4) : ExU), rfl, (((((((HG.far (p := ⟨g6, ps.length * 7, none⟩) (by show g ≠ g6; omega) _).far (p := ⟨g6, ps.length * 7 + 1, none⟩) (by show g ≠ g6; omega) _).far (p := ⟨g6, ps.length * 7 + 2, none⟩) (by show g ≠ g6; omega) _).far (p := ⟨g6, ps.length * 7 + 3, none⟩) (by show g ≠ g6; omega) _).far (p := ⟨g6, ps.length * 7 + 4, none⟩) (by show g ≠ g6; omega) _).far (p := ⟨g6, ps.length * 7 + 5, none⟩) (by show g ≠ g6; omega) _).far (p := ⟨g6, ps.length * 7 + 6, none⟩) (by show g ≠ g6; omega) _).store 0 _, ?_, (((((((HK.own _ _).own _ _).own _ _).own _ _).own _ _).own _ _).own _ _).far (p := ⟨g, 0, none⟩) (by show g < W.heap.size; omega) _, fun b hb => ?_, fun b hb hbg hne => ?_, (((((((HB.setCell (p := ⟨g6, ps.length * 7, none⟩) (by show g ≤ g6; omega) _).setCell (p := ⟨g6, ps.length * 7 + 1, none⟩) (by show g ≤ g6; omega) _).setCell (p := ⟨g6, ps.length * 7 + 2, none⟩) (by show g ≤ g6; omega) _).setCell (p := ⟨g6, ps.length * 7 + 3, none⟩) (by show g ≤ g6; omega) _).setCell (p := ⟨g6, ps.length * 7 + 4, none⟩) (by show g ≤ g6; omega) _).setCell (p := ⟨g6, ps.length * 7 + 5, none⟩) (by show g ≤ g6; omega) _).setCell (p := ⟨g6, ps.length * 7 + 6, none⟩) (by show g ≤ g6; omega) _).setCell (p := ⟨g, 0, none⟩) (Nat.le_refl _) _⟩
  · rw [List.length_append]
    exact own_farX (own_last HR ((⟨op, n, (k1, k2, s), nm, es⟩, .slice A4 es.length c4) : ExU)) (p := ⟨g, 0, none⟩) hgb _
  · have e : g6 = b := by simpa [Value.ownBlock] using hb
    rw [← e]; exact hv6
  · have hb6 : b ≠ g6 := fun e => by
      rcases hv6 with h | h
      · rw [← e] at h; exact hne h
      · omega
    exact ((((((((Below.heap_setCell _ _ _ b (by show b ≠ g; exact hbg)).trans (Below.heap_setCell _ _ _ b (by show b ≠ g6; exact hb6))).trans (Below.heap_setCell _ _ _ b (by show b ≠ g6; exact hb6))).trans (Below.heap_setCell _ _ _ b (by show b ≠ g6; exact hb6))).trans (Below.heap_setCell _ _ _ b (by show b ≠ g6; exact hb6))).trans (Below.heap_setCell _ _ _ b (by show b ≠ g6; exact hb6))).trans (Below.heap_setCell _ _ _ b (by show b ≠ g6; exact hb6))).trans (Below.heap_setCell _ _ _ b (by show b ≠ g6; exact hb6))).trans (HP b hb hne)
set_option maxHeartbeats 6400000 in
theorem sp_doneB {w6 W : World} {g base g6 cap d : Nat} {ps : List ExU} {q : ExU} {v v0 : Value} (op n k1 k2 : Int) (s nm : ByteArray) (es : List Ex) (A4 : Option Addr) (c4 : Nat) (HG : Own w6 g 24 #[v]) (HR : w6.ownsRow base 26 7 (.slice (some ⟨g6, 0, none⟩) (ps.length + 1) cap) (ps.length + 1) (flatE (ps ++ [q]))) (HK : KidsX w6 W.heap.size (.slice (some ⟨g6, 0, none⟩) (ps.length + 1) cap) d [((⟨op, n, (k1, k2, s), nm, es⟩, .slice A4 es.length c4) : ExU)]) (HB : Below g W w6) (HP : ∀ b, b < W.heap.size → v0.ownBlock ≠ some b → w6.heap[b]? = W.heap[b]?) (hgb : g < base) (hbz : base ≤ W.heap.size) (hb6 : base ≤ g6) (hv6 : v0.ownBlock = some g6 ∨ W.heap.size ≤ g6) :
    UpdX W ((((((((w6.setCell ⟨g, 0, none⟩ (.slice (some ⟨g6, 0, none⟩) (ps.length + 1) cap)).setCell ⟨g6, ps.length * 7, none⟩ (.int .i64 op)).setCell ⟨g6, ps.length * 7 + 1, none⟩ (.int .i64 n)).setCell ⟨g6, ps.length * 7 + 2, none⟩ (.int .i64 k1)).setCell ⟨g6, ps.length * 7 + 3, none⟩ (.int .i64 k2)).setCell ⟨g6, ps.length * 7 + 4, none⟩ (.string s)).setCell ⟨g6, ps.length * 7 + 5, none⟩ (.string nm)).setCell ⟨g6, ps.length * 7 + 6, none⟩ (.slice A4 es.length c4)) g base d v0 ps ⟨op, n, (k1, k2, s), nm, es⟩ := by
  refine ⟨(.slice (some ⟨g6, 0, none⟩) (ps.length + 1) cap), ((⟨op, n, (k1, k2, s), nm, es⟩, .slice A4 es.length c4) : ExU), rfl, ((((((((HG.store 0 (.slice (some ⟨g6, 0, none⟩) (ps.length + 1) cap)).far (p := ⟨g6, ps.length * 7, none⟩) (by show g ≠ g6; omega) _).far (p := ⟨g6, ps.length * 7 + 1, none⟩) (by show g ≠ g6; omega) _).far (p := ⟨g6, ps.length * 7 + 2, none⟩) (by show g ≠ g6; omega) _).far (p := ⟨g6, ps.length * 7 + 3, none⟩) (by show g ≠ g6; omega) _).far (p := ⟨g6, ps.length * 7 + 4, none⟩) (by show g ≠ g6; omega) _).far (p := ⟨g6, ps.length * 7 + 5, none⟩) (by show g ≠ g6; omega) _).far (p := ⟨g6, ps.length * 7 + 6, none⟩) (by show g ≠ g6; omega) _), ?_, ((((((((HK.far (p := ⟨g, 0, none⟩) (by show g < W.heap.size; omega) (.slice (some ⟨g6, 0, none⟩) (ps.length + 1) cap)).own _ _).own _ _).own _ _).own _ _).own _ _).own _ _).own _ _), fun b hb => ?_, fun b hb hbg hne => ?_, ((((((((HB.setCell (p := ⟨g, 0, none⟩) (Nat.le_refl _) (.slice (some ⟨g6, 0, none⟩) (ps.length + 1) cap)).setCell (p := ⟨g6, ps.length * 7, none⟩) (by show g ≤ g6; omega) _).setCell (p := ⟨g6, ps.length * 7 + 1, none⟩) (by show g ≤ g6; omega) _).setCell (p := ⟨g6, ps.length * 7 + 2, none⟩) (by show g ≤ g6; omega) _).setCell (p := ⟨g6, ps.length * 7 + 3, none⟩) (by show g ≤ g6; omega) _).setCell (p := ⟨g6, ps.length * 7 + 4, none⟩) (by show g ≤ g6; omega) _).setCell (p := ⟨g6, ps.length * 7 + 5, none⟩) (by show g ≤ g6; omega) _).setCell (p := ⟨g6, ps.length * 7 + 6, none⟩) (by show g ≤ g6; omega) _)⟩
  · rw [List.length_append]
    exact own_last (own_farX HR (p := ⟨g, 0, none⟩) hgb _) ((⟨op, n, (k1, k2, s), nm, es⟩, .slice A4 es.length c4) : ExU)
  · have e : g6 = b := by simpa [Value.ownBlock] using hb
    rw [← e]; exact hv6
  · have hb6 : b ≠ g6 := fun e => by
      rcases hv6 with h | h
      · rw [← e] at h; exact hne h
      · omega
    exact ((((((((Below.heap_setCell _ _ _ b (by show b ≠ g6; exact hb6)).trans (Below.heap_setCell _ _ _ b (by show b ≠ g6; exact hb6))).trans (Below.heap_setCell _ _ _ b (by show b ≠ g6; exact hb6))).trans (Below.heap_setCell _ _ _ b (by show b ≠ g6; exact hb6))).trans (Below.heap_setCell _ _ _ b (by show b ≠ g6; exact hb6))).trans (Below.heap_setCell _ _ _ b (by show b ≠ g6; exact hb6))).trans (Below.heap_setCell _ _ _ b (by show b ≠ g6; exact hb6))).trans (Below.heap_setCell _ _ _ b (by show b ≠ g; exact hbg))).trans (HP b hb hne)
end Go.Proofs.YthnmcpfmljibeaaGreat
/-
  Arguments that are expressions, opened: their conjuncts and their columns are few. Conditions: none.
-/
namespace Go.Proofs.YthnmcpfmljibeaaGreat
set_option maxRecDepth 100000
set_option linter.unusedVariables false
set_option linter.unusedSimpArgs false
open Go.ChangeShapes Go.WideShapes Go.ChangeAt Go.RowKit Go.Joins Go.Deep

section
variable {H : Type} {enc : TypeId × Value → H} {W : World} {base : Nat}
set_option maxRecDepth 100000 in
theorem open_exprsS : ∀ (N fuel : Nat) (u : Value) (d : DataW H) (p : List MemPlace), Rows.uptoBulk d ≤ N → N ≤ 1048576 → DataW.trod enc Tryz.prog W 0 (fun _ => true) true fuel 24 [u] = some (d, p) →
    ∃ es : List Ex, RdE W 0 W.heap.size N u es ∧ (∀ m, ∀ e ∈ es, okX m e) ∧ (∀ m, (es.flatMap (conjE m)).length ≤ Rows.uptoBulk d) ∧ ∀ m, (es.flatMap (colE m)).length ≤ Rows.uptoBulk d
  | 0, _, _, d, _, hN, _, _ => by have := bulk_posX d; omega
  | N + 1, fuel, u, d, p, hN, hbig, hf => by
    rcases open_slice Tryz.underlying24 hf with ⟨hcs, _⟩ | ⟨a, len, cap, m, n, D, Pl, hcs, _, hl, hm, hmm, hxx, hx⟩
    · injection hcs with hcs _
      subst hcs
      exact ⟨[], ⟨none, 0, rfl, by simp, by simp⟩, by simp, by simp, by simp⟩
    · injection hcs with hcs _
      subst hcs
      rw [if_pos rfl] at hmm
      subst hmm
      have hd : d = .slice ((List.range len).map D) ((List.range (m - len)).map fun j => D (len + j)) := congrArg Prod.fst hxx
      have hlen : len ≤ Rows.uptoBulkAll ((List.range len).map D) := by have := bulk_lenX D (List.range len); rwa [List.length_range] at this
      have hsum : Rows.uptoBulkAll ((List.range len).map D) < Rows.uptoBulk d := by rw [hd]; simp only [Rows.uptoBulk]; omega
      have each : ∀ i, i < len → ∃ q : Ex × Value, ExC W (a.add (i * 7)) q.1 q.2 ∧ RdE W 0 W.heap.size N q.2 q.1.args ∧ (∀ m, okX m q.1) ∧ (∀ m, (conjE m q.1).length ≤ Rows.uptoBulk (D i)) ∧ ∀ m, (colE m q.1).length ≤ Rows.uptoBulk (D i) := by
        intro i hi
        obtain ⟨cs', hc, ht⟩ := hx i (by omega)
        rw [cellsExp] at hc
        obtain ⟨_, hcl, hat⟩ := World.cells?_some hc
        obtain ⟨op, n1, k, m1, s, nm, w6, f, dd, pp, hwn, rfl, hg, hlt⟩ := open_fieldsC ht
        have hi2 := bulk_memX D (List.range len) i (List.mem_range.2 hi)
        obtain ⟨es, hes, hok, hcl, hcm⟩ := open_exprsS N f w6 dd pp (by dsimp only at hlt; omega) (by omega) hg
        refine ⟨(⟨op, n1, (k, m1, s), nm, es⟩, w6), ?_, hes, fun m => okX_mk hwn hok m, fun m => conjE_mk (Nat.lt_of_le_of_lt (Nat.le_refl _) hlt) hcl m, fun m => colE_mk (Nat.lt_of_le_of_lt (Nat.le_refl _) hlt) hcm m⟩
        have c0 := hat 0 (by omega)
        have c1 := hat 1 (by omega)
        have c2 := hat 2 (by omega)
        have c3 := hat 3 (by omega)
        have c4 := hat 4 (by omega)
        have c5 := hat 5 (by omega)
        have c6 := hat 6 (by omega)
        have ea : ∀ j, j ≠ 0 → (a.add (i * 7)).add j = ⟨(a.add (i * 7)).block, (a.add (i * 7)).off + j, none⟩ := fun j hj => by unfold Addr.add; rw [if_neg hj]
        rw [show (a.add (i * 7)).add 0 = a.add (i * 7) by unfold Addr.add; simp] at c0
        rw [ea 1 (by decide)] at c1
        rw [ea 2 (by decide)] at c2
        rw [ea 3 (by decide)] at c3
        rw [ea 4 (by decide)] at c4
        rw [ea 5 (by decide)] at c5
        rw [ea 6 (by decide)] at c6
        exact ⟨by simpa using c0, by simpa using c1, by simpa using c2, by simpa using c3, by simpa using c4, by simpa using c5, by simpa using c6⟩
      haveI : Inhabited (Ex × Value) := ⟨(⟨0, 0, (0, 0, ⟨#[]⟩), ⟨#[]⟩, []⟩, undef)⟩
      obtain ⟨q, hq⟩ := choose_lt each
      refine ⟨(List.range len).map fun i => (q i).1, ⟨some a, _, by rw [List.length_map, List.length_range], by rw [List.length_map, List.length_range]; omega, fun k e hk => ?_⟩, fun m e he => ?_, fun m => ?_, fun m => ?_⟩
      rotate_left
      · obtain ⟨i, hi, rfl⟩ := List.mem_map.1 he
        exact (hq i (List.mem_range.1 hi)).2.2.1 m
      · have h := flat_bulkJ D (fun i => (q i).1) (conjE m) (List.range len) (fun i hi => (hq i (List.mem_range.1 hi)).2.2.2.1 m)
        omega
      · have h := flat_bulk D (fun i => (q i).1) (colE m) (List.range len) (fun i hi => (hq i (List.mem_range.1 hi)).2.2.2.2 m)
        omega
      obtain ⟨hk1, hk2⟩ := List.getElem?_eq_some_iff.1 hk
      simp at hk1 hk2
      subst hk2
      obtain ⟨g0, g1, _⟩ := hq k hk1
      have hb := cell_ltX g0.1
      rw [add_blk] at hb
      exact ⟨a, (q k).2, rfl, Nat.zero_le _, hb, g0, g1⟩
/-- An argument that is an expression: its numbers are ints, its conjuncts are few. -/
theorem open_expS {v : Value} {d : DataW H} {p : List MemPlace} (hv : Value.okWide Tryz.prog W .any base 26 v) (h : DataW.Trod enc Tryz.prog W 0 (fun _ => true) true 26 v d p) (hN : Rows.uptoBulk d ≤ 1048576) :
    ∃ (e : Ex) (A : Option Addr) (c : Nat), v = exV e (.slice A e.args.length c) ∧ RdE W 0 W.heap.size 1048576 (.slice A e.args.length c) e.args ∧ (∀ m, okX m e) ∧ (∀ m, (conjE m e).length ≤ Rows.uptoBulk d) ∧ ∀ m, (colE m e).length ≤ Rows.uptoBulk d := by
  obtain ⟨cs, rfl, hsz⟩ := okWide_struct Tryz.underlying26 hv
  obtain ⟨fuel, hf⟩ := h
  obtain ⟨op, n1, k, m1, s, nm, w6, f, dd, pp, hwn, hcs, hg, hlt⟩ := open_fieldsC hf
  obtain ⟨es, hes, hok, hcl, hcm⟩ := open_exprsS (Rows.uptoBulk dd) f w6 dd pp (Nat.le_refl _) (by dsimp only at hlt; omega) hg
  obtain ⟨A, c, rfl, _⟩ := hes.slice
  obtain ⟨l⟩ := cs
  simp only [Value.cells] at hcs
  refine ⟨⟨op, n1, (k, m1, s), nm, es⟩, A, c, ?_, hes.up (by dsimp only at hlt; omega), fun m => okX_mk hwn hok m, fun m => conjE_mk hlt hcl m, fun m => colE_mk hlt hcm m⟩
  unfold exV
  dsimp only
  exact congrArg (fun l => Value.agg l.toArray) hcs
end
end Go.Proofs.YthnmcpfmljibeaaGreat
