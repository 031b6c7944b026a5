import Derived.Test.YteihjneeiojgaaaSEoI
import Derived.WalkKit
import Derived.WalkSpells
import Derived.WalkLawsBesides
import Derived.Deep.QuietTactic
import Derived.BigQuiet
import Derived.Handy
import Derived.Lib.Hide
/-
  What becomes of a definition of a call's own when one of its rows is written. Conditions: none.
-/
namespace Go.Proofs.Yteihjneeiojgaaa
set_option maxRecDepth 100000
set_option linter.unusedVariables false
set_option linter.unusedSimpArgs false
open Go.RowKit

variable {N : Nat} {X : Nat → Prop} {W W' : World} {v1 v2 v3 v4 : Value} {cs : List Cl} {zs : List Int} {qs : List FkU} {d : Nat} {ps : List ExU}
theorem OwT.later (h : OwT N X W v1 v2 v3 v4 cs zs qs d ps) (hb : Below W.heap.size W W') : OwT N X W' v1 v2 v3 v4 cs zs qs d ps :=
  ⟨own_below2 h.c hb, own_below2 h.k hb, own_below2 h.f hb, own_below2 h.x hb, fun q hq => own_below2 (h.i q hq) hb, h.ki, h.ii, fun p hp => (h.e p hp).move (fun b hb1 _ => hb.block b hb1) (fun _ _ h => h) hb.size⟩
theorem OwT.keyed {ys : List Int} (h : OwT N X W v1 v2 v3 v4 cs zs qs d ps) (hk : W'.ownsRow N 3 1 v2 ys.length (ys.flatMap fI)) (hg : W.grownBy W' v2.ownBlock) : OwT N X W' v1 v2 v3 v4 cs ys qs d ps :=
  ⟨World.ownsRow.kept h.c hg (own_offT h.c h.k (by decide)).row, hk, World.ownsRow.kept h.f hg (own_offT h.f h.k (by decide)).row, World.ownsRow.kept h.x hg (own_offT h.x h.k (by decide)).row,
    fun q hq => World.ownsRow.kept (h.i q hq) hg (h.ki q hq).sym.row, h.ki, h.ii, fun p hp => (h.e p hp).move (fun b hb1 hm => hg.block b hb1 fun e => hm (.inl (.inr (.inl e.symm)))) (fun _ _ h => h) hg.size⟩
theorem fF_set (qs : List FkU) (j : Nat) (q : FkU) (ys : List Int) (hq : qs[j]? = some q) : (qs.set j ((ys, q.1.2), q.2)).flatMap fF = qs.flatMap fF := by
  have h1 := fm_set fF_len 0 q.2 (by decide) qs j q ((ys, q.1.2), q.2) hq rfl
  have h2 := fm_get fF_len qs j q hq 0 (by decide)
  rw [← h1]
  exact set_same _ _ _ (by rw [h2]; rfl)
theorem snd_set (qs : List FkU) (j : Nat) (q : FkU) (ys : List Int) (hq : qs[j]? = some q) : (qs.set j ((ys, q.1.2), q.2)).map (·.2) = qs.map (·.2) := by
  rw [List.map_set]
  exact set_same _ _ _ (by rw [List.getElem?_map, hq]; rfl)
theorem off_all {qs : List FkU} (h : qs.Pairwise fun a b => Off a.2 b.2) {i j : Nat} {a b : FkU} (hi : qs[i]? = some a) (hj : qs[j]? = some b) (hne : i ≠ j) : Off a.2 b.2 := by
  obtain ⟨h1, rfl⟩ := List.getElem?_eq_some_iff.1 hi
  obtain ⟨h2, rfl⟩ := List.getElem?_eq_some_iff.1 hj
  rcases Nat.lt_or_gt_of_ne hne with hl | hl
  · exact List.pairwise_iff_getElem.1 h i j h1 h2 hl
  · exact (List.pairwise_iff_getElem.1 h j i h2 h1 hl).sym
theorem mine_of {v1 v2 v3 v4 : Value} {qs rs : List FkU} (h : qs.map (·.2) = rs.map (·.2)) (b : Nat) (hm : Mine v1 v2 v3 v4 qs b) : Mine v1 v2 v3 v4 rs b := by
  rcases hm with h1 | h1 | h1 | h1 | ⟨q, hq, h1⟩
  · exact .inl h1
  · exact .inr (.inl h1)
  · exact .inr (.inr (.inl h1))
  · exact .inr (.inr (.inr (.inl h1)))
  · have h2 : q.2 ∈ rs.map (·.2) := by rw [← h]; exact List.mem_map_of_mem hq
    obtain ⟨r, hr, he⟩ := List.mem_map.1 h2
    exact .inr (.inr (.inr (.inr ⟨r, hr, by rw [he]; exact h1⟩)))
theorem OwT.colsI {ys : List Int} {j : Nat} {q : FkU} (h : OwT N X W v1 v2 v3 v4 cs zs qs d ps) (hq : qs[j]? = some q) (hk : W'.ownsRow N 3 1 q.2 ys.length (ys.flatMap fI)) (hg : W.grownBy W' q.2.ownBlock) :
    OwT N X W' v1 v2 v3 v4 cs zs (qs.set j ((ys, q.1.2), q.2)) d ps := by
  have hqm := List.mem_of_getElem? hq
  have hs := snd_set qs j q ys hq
  refine ⟨World.ownsRow.kept h.c hg (own_offT h.c (h.i q hqm) (by decide)).row, World.ownsRow.kept h.k hg (h.ki q hqm).row, ?_, World.ownsRow.kept h.x hg (own_offT h.x (h.i q hqm) (by decide)).row, ?_, ?_, ?_, ?_⟩
  · rw [List.length_set, fF_set qs j q ys hq]
    exact World.ownsRow.kept h.f hg (own_offT h.f (h.i q hqm) (by decide)).row
  · intro r hr
    obtain ⟨i, hi⟩ := List.mem_iff_getElem?.1 hr
    rw [List.getElem?_set] at hi
    by_cases hij : j = i
    · subst hij
      rw [if_pos rfl] at hi
      split at hi
      · injection hi with hi
        subst hi
        exact hk
      · cases hi
    · rw [if_neg hij] at hi
      exact World.ownsRow.kept (h.i r (List.mem_of_getElem? hi)) hg (off_all h.ii hi hq (fun e => hij e.symm)).row
  · intro r hr b h1 h2
    have h3 : r.2 ∈ qs.map (·.2) := by rw [← hs]; exact List.mem_map_of_mem hr
    obtain ⟨r', hr', he⟩ := List.mem_map.1 h3
    exact h.ki r' hr' b h1 (by rw [he]; exact h2)
  · have h1 : (qs.map (·.2)).Pairwise Off := List.pairwise_map.2 h.ii
    rw [← hs] at h1
    exact List.pairwise_map.1 h1
  · exact fun p hp => (h.e p hp).move (fun b hb1 hm => hg.block b hb1 fun e => hm (.inl (.inr (.inr (.inr (.inr ⟨q, hqm, e.symm⟩)))))) (fun b _ hm => hm.imp (mine_of hs b) id) hg.size
theorem OwT.cols {v1' : Value} {cs' : List Cl} (h : OwT N X W v1 v2 v3 v4 cs zs qs d ps) (hc : W'.ownsRow N 36 3 v1' cs'.length (cs'.flatMap fC)) (hg : W.grownBy W' v1.ownBlock) (hv : ∀ g, v1'.ownBlock = some g → v1.ownBlock = some g ∨ W.heap.size ≤ g) :
    OwT N X W' v1' v2 v3 v4 cs' zs qs d ps :=
  ⟨hc, World.ownsRow.kept h.k hg (own_offT h.k h.c (by decide)).row, World.ownsRow.kept h.f hg (own_offT h.f h.c (by decide)).row, World.ownsRow.kept h.x hg (own_offT h.x h.c (by decide)).row,
    fun q hq => World.ownsRow.kept (h.i q hq) hg (own_offT (h.i q hq) h.c (by decide)).row, h.ki, h.ii, fun p hp => (h.e p hp).move (fun b hb1 hm => hg.block b hb1 fun e => hm (.inl (.inl e.symm))) (fun b hb1 hm => by
      rcases hm with (h1 | h1) | h1
      · rcases hv b h1 with h2 | h2
        · exact .inl (.inl h2)
        · omega
      · exact .inl (.inr h1)
      · exact .inr h1) hg.size⟩
theorem TreeOff.up {M : Nat → Prop} {d d' : Nat} {v : Value} {es : List Ex} (h : TreeOff M W d v es) (hd : d ≤ d') : TreeOff M W d' v es := by
  obtain ⟨B, hB, hr⟩ := h
  exact ⟨B, hB, fun W2 h2 => (hr W2 h2).up hd⟩
theorem OwT.up {d' : Nat} (h : OwT N X W v1 v2 v3 v4 cs zs qs d ps) (hd : d ≤ d') : OwT N X W v1 v2 v3 v4 cs zs qs d' ps :=
  ⟨h.c, h.k, h.f, h.x, h.i, h.ki, h.ii, fun p hp => (h.e p hp).up hd⟩
theorem OwT.exs {j : Nat} {p : ExU} (h : OwT N X W v1 v2 v3 v4 cs zs qs d ps) (hx : W'.ownsRow N 65 7 v4 (ps.set j p).length (flatE (ps.set j p))) (hg : W.grownBy W' v4.ownBlock) (he : TreeOff (fun b => Mine v1 v2 v3 v4 qs b ∨ X b) W' d p.2 p.1.args) :
    OwT N X W' v1 v2 v3 v4 cs zs qs d (ps.set j p) := by
  refine ⟨World.ownsRow.kept h.c hg (own_offT h.c h.x (by decide)).row, World.ownsRow.kept h.k hg (own_offT h.k h.x (by decide)).row, World.ownsRow.kept h.f hg (own_offT h.f h.x (by decide)).row, hx,
    fun q hq => World.ownsRow.kept (h.i q hq) hg (own_offT (h.i q hq) h.x (by decide)).row, h.ki, h.ii, fun r hr => ?_⟩
  rcases List.mem_or_eq_of_mem_set hr with h1 | rfl
  · exact (h.e r h1).move (fun b hb1 hm => hg.block b hb1 fun e => hm (.inl (.inr (.inr (.inr (.inl e.symm)))))) (fun _ _ h => h) hg.size
  · exact he
theorem OwT.mine_lt (h : OwT N X W v1 v2 v3 v4 cs zs qs d ps) (b : Nat) (hm : Mine v1 v2 v3 v4 qs b) : b < W.heap.size := by
  rcases hm with h1 | h1 | h1 | h1 | ⟨q, hq, h1⟩
  · exact (World.ownsRow.lt h.c b h1).2
  · exact (World.ownsRow.lt h.k b h1).2
  · exact (World.ownsRow.lt h.f b h1).2
  · exact (World.ownsRow.lt h.x b h1).2
  · exact (World.ownsRow.lt (h.i q hq) b h1).2
/-- Behind w nothing old was written but in the blocks M. -/
def Fra (M : Nat → Prop) (w w' : World) : Prop := w'.os = w.os ∧ w'.tape = w.tape ∧ w'.output = w.output ∧ w.heap.size ≤ w'.heap.size ∧ ∀ b, b < w.heap.size → ¬ M b → w'.heap[b]? = w.heap[b]?
theorem Fra.of {M : Nat → Prop} {w w' : World} (h : Below w.heap.size w w') : Fra M w w' := ⟨h.os, h.tape, h.output, h.size, fun b hb _ => h.block b hb⟩
theorem Fra.gr {M : Nat → Prop} {w w1 w2 : World} {row : Option Nat} (h : Fra M w w1) (hg : w1.grownBy w2 row) (hr : ∀ b, row = some b → b < w.heap.size → M b) : Fra M w w2 :=
  ⟨hg.os.trans h.1, hg.tape.trans h.2.1, hg.output.trans h.2.2.1, Nat.le_trans h.2.2.2.1 hg.size, fun b hb hm => (hg.block b (Nat.lt_of_lt_of_le hb h.2.2.2.1) fun e => hm (hr b e.symm hb)).trans (h.2.2.2.2 b hb hm)⟩
theorem Fra.trans {M M' : Nat → Prop} {w w1 w2 : World} (h : Fra M w w1) (k : Fra M' w1 w2) (hm : ∀ b, b < w.heap.size → M' b → M b) : Fra M w w2 :=
  ⟨k.1.trans h.1, k.2.1.trans h.2.1, k.2.2.1.trans h.2.2.1, Nat.le_trans h.2.2.2.1 k.2.2.2.1, fun b hb hn => (k.2.2.2.2 b (Nat.lt_of_lt_of_le hb h.2.2.2.1) fun e => hn (hm b hb e)).trans (h.2.2.2.2 b hb hn)⟩
theorem Fra.far {M : Nat → Prop} {w w1 : World} (h : Fra M w w1) {p : Addr} (hp : w.heap.size ≤ p.block) (u : Value) : Fra M w (w1.setCell p u) :=
  ⟨h.1, h.2.1, h.2.2.1, by rw [World.size_setCell]; exact h.2.2.2.1, fun b hb hm => (Below.heap_setCell w1 p u b (by omega)).trans (h.2.2.2.2 b hb hm)⟩
theorem Fra.below {M : Nat → Prop} {w w' : World} {N : Nat} (h : Fra M w w') (hM : ∀ b, M b → N ≤ b) (hN : N ≤ w.heap.size) : Below N w w' :=
  ⟨h.1, h.2.1, h.2.2.1, h.2.2.2.1, fun b hb => h.2.2.2.2 b (by omega) fun hm => by have := hM b hm; omega⟩
theorem OwT.mine_ge (h : OwT N X W v1 v2 v3 v4 cs zs qs d ps) (b : Nat) (hm : Mine v1 v2 v3 v4 qs b) : N ≤ b := by
  rcases hm with h1 | h1 | h1 | h1 | ⟨q, hq, h1⟩
  · exact (World.ownsRow.lt h.c b h1).1
  · exact (World.ownsRow.lt h.k b h1).1
  · exact (World.ownsRow.lt h.f b h1).1
  · exact (World.ownsRow.lt h.x b h1).1
  · exact (World.ownsRow.lt (h.i q hq) b h1).1
theorem OwT.withX {X' : Nat → Prop} (h : OwT N X W v1 v2 v3 v4 cs zs qs d ps) (hX : ∀ b, b < W.heap.size → X' b → X b) : OwT N X' W v1 v2 v3 v4 cs zs qs d ps :=
  ⟨h.c, h.k, h.f, h.x, h.i, h.ki, h.ii, fun p hp => (h.e p hp).move (fun _ _ _ => rfl) (fun b hb hm => hm.imp id (hX b hb)) (Nat.le_refl _)⟩
theorem grownB_one (w : World) (p : Addr) (u : Value) : w.grownBy (w.setCell p u) (some p.block) :=
  ⟨rfl, rfl, rfl, by rw [World.size_setCell]; exact Nat.le_refl _, fun b _ hb => Below.heap_setCell w p u b (fun e => hb (by rw [e]))⟩
/-- A store into a block that is no row of the definition's, but one of X. -/
theorem OwT.setX (h : OwT N X W v1 v2 v3 v4 cs zs qs d ps) {p : Addr} (hp : X p.block) (hn : ¬ Mine v1 v2 v3 v4 qs p.block) (u : Value) : OwT N X (W.setCell p u) v1 v2 v3 v4 cs zs qs d ps := by
  have hg := grownB_one W p u
  have k : ∀ v : Value, (v.ownBlock = some p.block → False) → v.ownBlock = none ∨ v.ownBlock ≠ some p.block := fun v hv => .inr hv
  exact ⟨World.ownsRow.kept h.c hg (k _ fun e => hn (.inl e)), World.ownsRow.kept h.k hg (k _ fun e => hn (.inr (.inl e))), World.ownsRow.kept h.f hg (k _ fun e => hn (.inr (.inr (.inl e)))), World.ownsRow.kept h.x hg (k _ fun e => hn (.inr (.inr (.inr (.inl e))))),
    fun q hq => World.ownsRow.kept (h.i q hq) hg (k _ fun e => hn (.inr (.inr (.inr (.inr ⟨q, hq, e⟩))))), h.ki, h.ii, fun r hr => (h.e r hr).move (fun b hb hm => hg.block b hb fun e => hm (.inr (by injection e with e; rw [e]; exact hp))) (fun _ _ h => h) hg.size⟩
/-- Such a definition is read as one. -/
theorem OwT.rd (h : OwT N X W v1 v2 v3 v4 cs zs qs d ps) (l1 : cs.length ≤ 1099511627776) (l2 : zs.length ≤ 1099511627776) (l3 : qs.length ≤ 1099511627776) (l4 : ps.length ≤ 1099511627776) (l5 : ∀ q ∈ qs, q.1.1.length ≤ 1099511627776) :
    RdT W 0 W.heap.size v1 v2 v3 v4 cs zs (qs.map (·.1)) d (ps.map (·.1)) :=
  ⟨(rdK_ownL h.c l1).low (Nat.zero_le _), (rdI_ownL h.k l2).low (Nat.zero_le _), rdF_ownL h.f (Nat.zero_le _) l3 (fun q hq => (rdI_ownL (h.i q hq) (l5 q hq)).low (Nat.zero_le _)), rdE_ownM h.x (Nat.zero_le _) l4 (fun p hp => (h.e p hp).rd)⟩
end Go.Proofs.Yteihjneeiojgaaa
