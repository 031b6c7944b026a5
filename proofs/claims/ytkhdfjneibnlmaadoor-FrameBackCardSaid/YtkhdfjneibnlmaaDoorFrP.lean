/-
  Rows of slices of bytes that a call makes; which frames a scan finds. Conditions: lengths.
-/
import Derived.Test.YtkhdfjneibnlmaaDoorFrI
import Derived.Test.YtkhdfjneibnlmaaDoorFrR
import Derived.Deep.AppendLies
import Derived.WalkKit
import Derived.WalkSpells
import Derived.WalkLawsBesides
import Derived.Deep.QuietTactic
import Derived.BigQuiet
import Derived.Handy
import Derived.Lib.Hide
namespace Go.Proofs.YtkhdfjneibnlmaaDoor
open Go.RowKit

/-- The slice u does not lie in block g, if it holds anything. -/
def Fa (g : Nat) (u : Value) : Prop := ∀ ad n c, u = .slice (some ad) n c → n = 0 ∨ ad.block ≠ g
/-- The row vb is the call's own and holds slices of the bytes ms, none of which lies in the row's own block. -/
def RowS (w : World) (base : Nat) (vb : Value) (ms : List (List UInt8)) : Prop :=
  ∃ vs : List Value, w.ownsRow base 22 1 vb ms.length vs ∧ ∀ (k : Nat) (m : List UInt8), ms[k]? = some m → ∃ u, vs[k]? = some u ∧ RdB w 0 w.heap.size u m ∧ ∀ g, vb.ownBlock = some g → Fa g u
theorem RowS.nil (w : World) (base : Nat) : RowS w base (.slice none 0 0) [] := ⟨[], World.ownsRow_nil w base _ 1, fun k m h => by simp at h⟩
theorem RowS.step {w w' : World} {base : Nat} {vb : Value} {ms : List (List UInt8)} (h : RowS w base vb ms) (hb : Below w.heap.size w w') : RowS w' base vb ms := by
  obtain ⟨vs, h1, h2⟩ := h
  refine ⟨vs, own_below h1 hb, fun k m hk => ?_⟩
  obtain ⟨u, h3, h4, h5⟩ := h2 k m hk
  exact ⟨u, h3, h4.step hb (Nat.le_refl _), h5⟩
theorem RowS.lt {w : World} {base g : Nat} {vb : Value} {ms : List (List UInt8)} (h : RowS w base vb ms) (hg : vb.ownBlock = some g) : g < w.heap.size := by
  obtain ⟨vs, h1, _⟩ := h
  exact (h1.lt g hg).2
theorem fa_new {w : World} {L B g : Nat} {u : Value} {m : List UInt8} (h : RdB w L B u m) (hg : g < L) : Fa g u := by
  obtain ⟨A, c, rfl, _, _, hx⟩ := h
  intro ad n c' e
  injection e with e1 e2 e3
  subst e1 e2
  cases m with
  | nil => exact .inl rfl
  | cons b t =>
    obtain ⟨ad2, e4, h2, _, _⟩ := hx 0 b rfl
    injection e4 with e4; subst e4
    exact .inr (by omega)
theorem rdB_grown {w w' : World} {row : Option Nat} {u : Value} {m : List UInt8} (hg : w.grownBy w' row) (h : RdB w 0 w.heap.size u m) (hf : ∀ g, row = some g → Fa g u) : RdB w' 0 w'.heap.size u m := by
  obtain ⟨A, c, rfl, hl, hc, hx⟩ := h
  refine ⟨A, c, rfl, hl, hc, fun k b hk => ?_⟩
  obtain ⟨ad, rfl, h1, h2, h3⟩ := hx k b hk
  have hpos : m.length ≠ 0 := by have := (List.getElem?_eq_some_iff.1 hk).1; omega
  refine ⟨ad, rfl, h1, Nat.lt_of_lt_of_le h2 hg.size, ?_⟩
  rw [World.grownBy.cell_far hg (ad.add k) (by rw [add_block]; exact h2) (by
    rw [add_block]
    intro e
    rcases hf _ e.symm ad _ _ rfl with h4 | h4
    · exact hpos h4
    · exact h4 rfl)]
  exact h3
theorem infoS : (Tryd.prog.info? 22).map (fun i => (i.zero, i.size, i.bytes)) = some (some (.slice none 0 0), 1, 24) := by kernel_rfl
theorem append_s {ops : Array Oper} {rest : List Oper} {o : Oper} {a : Act} {Q : Exit → Act → World → Prop} (W : World) (hgd : o.guard = none) (s x : Operand)
    (ho : o.op = .call { callee := .builtin .append, args := #[s, x], argTypes := #[36, 36] }) (base : Nat) (vb : Value) (ms : List (List UInt8)) (hs : a.eval s = vb)
    (hR : RowS W base vb ms) (h0 c : Nat) (u : Value) (m : List UInt8) (hx : a.eval x = .slice (some ⟨h0, 0, none⟩) 1 c) (hcell : W.cell? ⟨h0, 0, none⟩ = some u) (hu : RdB W 0 W.heap.size u m) (hfa : ∀ g, vb.ownBlock = some g → Fa g u)
    (hl : ms.length ≤ 1000000) (hbase : base ≤ W.heap.size)
    (h : ∀ v' w', RowS w' base v' (ms ++ [m]) → Below base W w' → wpList Tryd.prog ops Q rest (a.put o.dst v') w') :
    wpList Tryd.prog ops Q (o :: rest) a W := by
  obtain ⟨vs, hown, hel⟩ := hR
  obtain ⟨i0, hi, hz0, hz1, hz2⟩ := info_partsB infoS
  have hsu : ∃ A n c', u = .slice A n c' := by obtain ⟨A, c', rfl, _⟩ := hu; exact ⟨_, _, _, rfl⟩
  refine wpList_append_lies W hgd s x 36 ho base 22 i0 (.slice none 0 0) 1 24 Tryd.underlying36 hi hz0 hz1 hz2 rfl (by decide) vb ms.length vs hs hown ⟨h0, 0, none⟩ 1 c [u] hx rfl
    ?_ ?_ (by decide) (by unfold maxLen; omega) (by omega) hbase W.heap.size rfl ?_
  · intro j v hj
    have hj0 : j = 0 := by have := (List.getElem?_eq_some_iff.1 hj).1; simp at this; omega
    subst hj0
    have hv : u = v := by simpa using hj
    subst hv
    exact hcell
  · intro v hv
    obtain ⟨A, n, c', rfl⟩ := hsu
    simp at hv
    subst hv
    rfl
  · intro g cap w' h1 h2 h3 h4
    refine h _ _ ⟨vs ++ [u], by rw [List.length_append]; exact h1, fun k p hk => ?_⟩ ((Below.refl _ _).grown h2 hbase fun k hk => (hown.lt k hk).1)
    have hvl : vs.length = ms.length := by have := hown.1; omega
    have hfin : ∀ y q, RdB W 0 W.heap.size y q → (∀ g, vb.ownBlock = some g → Fa g y) → ∀ g', (Value.slice (some ⟨g, 0, none⟩) (ms.length + 1) cap).ownBlock = some g' → Fa g' y := by
      intro y q hy hf g' hg'
      have : g = g' := Option.some.inj hg'
      subst this
      rcases h3 with h5 | h5
      · exact hf _ h5
      · subst h5
        obtain ⟨A, c', rfl, _, _, hx2⟩ := hy
        intro ad n c2 e
        injection e with e1 e2 e3
        subst e1 e2
        cases q with
        | nil => exact .inl rfl
        | cons b t =>
          obtain ⟨ad2, e4, _, h6, _⟩ := hx2 0 b rfl
          injection e4 with e4; subst e4
          exact .inr (by omega)
    by_cases hk1 : k < ms.length
    · rw [List.getElem?_append_left hk1] at hk
      obtain ⟨y, h5, h6, h7⟩ := hel k p hk
      exact ⟨y, by rw [List.getElem?_append_left (by omega)]; exact h5, rdB_grown h2 h6 h7, hfin y p h6 h7⟩
    · have hk2 : k = ms.length := by have := (List.getElem?_eq_some_iff.1 hk).1; simp at this; omega
      subst hk2
      have hp : m = p := by simpa using hk
      subst hp
      exact ⟨u, by rw [← hvl]; simp, rdB_grown h2 hu hfa, hfin u m hu hfa⟩
/-- The bodies that a scan has found after k steps, and the offset that it has come to. -/
def scanN (l : List UInt8) : Nat → List (List UInt8) × Nat
  | 0 => ([], 0)
  | k + 1 => if (nextF l (scanN l k).2).1 = 0 then ((scanN l k).1 ++ [(nextF l (scanN l k).2).2.1], (nextF l (scanN l k).2).2.2) else scanN l k
def scanF (l : List UInt8) : List (List UInt8) × Nat := scanN l l.length
theorem scanN_stay (l : List UInt8) (k : Nat) (h : (nextF l (scanN l k).2).1 ≠ 0) : ∀ j, scanN l (k + j) = scanN l k := by
  intro j
  induction j with
  | zero => rfl
  | succ j ih =>
    show (if (nextF l (scanN l (k + j)).2).1 = 0 then _ else scanN l (k + j)) = _
    rw [ih, if_neg h]
theorem nextL_ok {l : List UInt8} {P : Nat} (h : (nextL l P).1 = 0) : (nextL l P).2.2 = P + 8 + (nextL l P).2.1.length ∧ 8 + (nextL l P).2.1.length ≤ l.length ∧ (nextL l P).2.1.length ≤ 1048576 := by
  by_cases hl : l.length < 8
  · rw [nextL_short l P hl] at h; exact absurd h (by decide)
  · obtain ⟨b0, b1, b2, b3, c0, c1, c2, c3, r, rfl⟩ := eight l (by omega)
    have e : nextL (b0 :: b1 :: b2 :: b3 :: c0 :: c1 :: c2 :: c3 :: r) P = (if nxE b0 b1 b2 b3 c0 c1 c2 c3 r = 0 then (0, r.take (num4 b0 b1 b2 b3), P + 8 + num4 b0 b1 b2 b3) else (nxE b0 b1 b2 b3 c0 c1 c2 c3 r, [], 0)) := rfl
    by_cases h0 : nxE b0 b1 b2 b3 c0 c1 c2 c3 r = 0
    · rw [e, if_pos h0]
      unfold nxE at h0
      split at h0
      · exact absurd h0 (by decide)
      · split at h0
        · exact absurd h0 (by decide)
        · have hlen : (r.take (num4 b0 b1 b2 b3)).length = num4 b0 b1 b2 b3 := by rw [List.length_take]; omega
          refine ⟨?_, ?_, ?_⟩
          · show P + 8 + num4 b0 b1 b2 b3 = P + 8 + (r.take (num4 b0 b1 b2 b3)).length; rw [hlen]
          · show 8 + (r.take (num4 b0 b1 b2 b3)).length ≤ _; rw [hlen]; simp; omega
          · show (r.take (num4 b0 b1 b2 b3)).length ≤ _; rw [hlen]; omega
    · rw [e, if_neg h0] at h
      exact absurd h h0
theorem nextF_ok {l : List UInt8} {P : Nat} (h : (nextF l P).1 = 0) : (nextF l P).2.2 = P + 8 + (nextF l P).2.1.length ∧ P + 8 + (nextF l P).2.1.length ≤ l.length ∧ (nextF l P).2.1.length ≤ 1048576 := by
  unfold nextF at h ⊢
  split at h
  · exact absurd h (by decide)
  · rename_i h1
    rw [if_neg h1]
    rw [Int.toNat_natCast] at h ⊢
    obtain ⟨h2, h3, h4⟩ := nextL_ok h
    rw [List.length_drop] at h3
    exact ⟨h2, by omega, h4⟩
/-- The loop's state after k steps, all of them steps. -/
def Sc (l : List UInt8) (k : Nat) (ms : List (List UInt8)) (P : Nat) : Prop := scanN l k = (ms, P) ∧ 8 * k ≤ P ∧ P ≤ l.length ∧ ms.length = k
theorem sc_zero (l : List UInt8) : Sc l 0 [] 0 := ⟨rfl, by omega, by omega, rfl⟩
theorem sc_succ {l : List UInt8} {k : Nat} {ms : List (List UInt8)} {P : Nat} (h : Sc l k ms P) (h0 : (nextF l P).1 = 0) : Sc l (k + 1) (ms ++ [(nextF l P).2.1]) (nextF l P).2.2 := by
  obtain ⟨h1, h2, h3, h4⟩ := h
  obtain ⟨h5, h6, _⟩ := nextF_ok h0
  refine ⟨?_, by omega, by omega, by rw [List.length_append, h4]; rfl⟩
  show (if (nextF l (scanN l k).2).1 = 0 then ((scanN l k).1 ++ [(nextF l (scanN l k).2).2.1], (nextF l (scanN l k).2).2.2) else scanN l k) = _
  rw [h1]
  exact if_pos h0
theorem sc_end {l : List UInt8} {k : Nat} {ms : List (List UInt8)} {P : Nat} (h : Sc l k ms P) (h0 : (nextF l P).1 ≠ 0) : scanF l = (ms, P) := by
  obtain ⟨h1, h2, h3, _⟩ := h
  have := scanN_stay l k (by rw [h1]; exact h0) (l.length - k)
  unfold scanF
  rw [show l.length = k + (l.length - k) by omega, this, h1]
/-- What a scan answers. -/
def RetS (w : World) (x : List (List UInt8) × Nat) (e : Ending) (w' : World) : Prop :=
  ∃ v', e = .returned (.tuple #[v', .int .i64 (x.2 : Nat)]) ∧ RowS w' w.heap.size v' x.1 ∧ Below w.heap.size w w'
end Go.Proofs.YtkhdfjneibnlmaaDoor
