import Derived.Test.YteihjneeiojgaaaSExUa
import Derived.Deep.AppendLies
import Derived.WalkKit
import Derived.WalkSpells
import Derived.WalkLawsBesides
import Derived.Deep.QuietTactic
import Derived.BigQuiet
import Derived.Handy
import Derived.Lib.Hide
import Derived.Test.YteihjneeiojgaaaTE
/-
  Trees that are appended one after another to a row of the call's own. Conditions: lengths.
-/
namespace Go.Proofs.Yteihjneeiojgaaa
set_option maxRecDepth 100000
set_option linter.unusedVariables false
set_option linter.unusedSimpArgs false
open Go.RowKit

/-- A change that leaves all blocks but one as they were leaves the trees beside it. -/
theorem RdE.grown {w w' : World} {L B : Nat} {row : Option Nat} (hg : w.grownBy w' row) (hB : B ≤ w.heap.size) (hne : ∀ g, row = some g → g < L ∨ B ≤ g) : ∀ {d : Nat} {u : Value} {es : List Ex}, RdE w L B d u es → RdE w' L B d u es
  | 0, _, _, h => h
  | d + 1, u, es, ⟨A, c, hv, hl, hc⟩ => ⟨A, c, hv, hl, fun k e hk => by
      obtain ⟨ad, x, h1, h2, h3, h4, h5⟩ := hc k e hk
      have hq : ∀ a : Addr, a.block = ad.block → w'.cell? a = w.cell? a := fun a ha => World.grownBy.cell_far hg a (by omega) (by
        rw [ha]
        intro e2
        rcases hne _ e2.symm with h | h <;> omega)
      have hk7 : ∀ i, (⟨(ad.add (k * 7)).block, (ad.add (k * 7)).off + i, none⟩ : Addr).block = ad.block := fun i => add_blk ad (k * 7)
      obtain ⟨q0, q1, q2, q3, q4, q5, q6⟩ := h4
      exact ⟨ad, x, h1, h2, h3, ⟨(hq _ (add_blk ad (k * 7))).trans q0, (hq _ (hk7 1)).trans q1, (hq _ (hk7 2)).trans q2, (hq _ (hk7 3)).trans q3, (hq _ (hk7 4)).trans q4, (hq _ (hk7 5)).trans q5, (hq _ (hk7 6)).trans q6⟩, RdE.grown hg hB hne h5⟩⟩
/-- The arguments of the expressions ps lie above base and beside the row v. -/
def KidsX (w : World) (base : Nat) (v : Value) (d : Nat) (ps : List ExU) : Prop := ∀ p ∈ ps, ∃ Lp Bp, RdE w Lp Bp d p.2 p.1.args ∧ Bp ≤ w.heap.size ∧ base ≤ Lp ∧ ∀ g, v.ownBlock = some g → g < Lp ∨ Bp ≤ g
theorem KidsX.below {w w' : World} {base : Nat} {v : Value} {d : Nat} {ps : List ExU} (h : KidsX w base v d ps) (hb : Below w.heap.size w w') : KidsX w' base v d ps := fun p hp => by
  obtain ⟨Lp, Bp, h1, h2, h3, h4⟩ := h p hp
  exact ⟨Lp, Bp, h1.below (hb.mono h2), Nat.le_trans h2 hb.size, h3, h4⟩
theorem KidsX.far {w : World} {base : Nat} {v : Value} {d : Nat} {ps : List ExU} (h : KidsX w base v d ps) {p : Addr} (hp : p.block < base) (u : Value) : KidsX (w.setCell p u) base v d ps := fun q hq => by
  obtain ⟨Lp, Bp, h1, h2, h3, h4⟩ := h q hq
  exact ⟨Lp, Bp, h1.far (by omega), by rw [World.size_setCell]; exact h2, h3, h4⟩
theorem KidsX.grown {W w' : World} {base g n c : Nat} {v : Value} {d : Nat} {ps : List ExU} (h : KidsX W base v d ps) (hg : W.grownBy w' v.ownBlock) (hv : v.ownBlock = some g ∨ g = W.heap.size) : KidsX w' base (.slice (some ⟨g, 0, none⟩) n c) d ps := fun p hp => by
  obtain ⟨Lp, Bp, h1, h2, h3, h4⟩ := h p hp
  refine ⟨Lp, Bp, h1.grown hg h2 h4, Nat.le_trans h2 hg.size, h3, fun g2 hg2 => ?_⟩
  have e : g = g2 := by simpa [Value.ownBlock] using hg2
  subst e
  rcases hv with hv | rfl
  · exact h4 _ hv
  · exact .inr h2
theorem KidsX.snoc {w : World} {base : Nat} {v : Value} {d : Nat} {ps : List ExU} {p : ExU} (h : KidsX w base v d ps) (hp : KidsX w base v d [p]) : KidsX w base v d (ps ++ [p]) := fun q hq => by
  rcases List.mem_append.1 hq with hq | hq
  · exact h q hq
  · exact hp q hq
/-- A tree that a call has just made lies beside any row that was there before. -/
theorem KidsX.one {W w' : World} {base : Nat} {v : Value} {d : Nat} {p : ExU} (h : RdE w' W.heap.size w'.heap.size d p.2 p.1.args) (hb : base ≤ W.heap.size) (hv : ∀ g, v.ownBlock = some g → g < W.heap.size) : KidsX w' base v d [p] := fun q hq => by
  rw [List.mem_singleton.1 hq]
  exact ⟨W.heap.size, w'.heap.size, h, Nat.le_refl _, hb, fun g hg => .inl (hv g hg)⟩
theorem ownX_lt {w : World} {base n : Nat} {v : Value} {xs : List Value} (h : w.ownsRow base 65 7 v n xs) : ∀ g, v.ownBlock = some g → g < w.heap.size := fun g hg => (h.lt g hg).2
theorem rdE_own {w : World} {base d : Nat} {v : Value} {ps : List ExU} (h : w.ownsRow base 65 7 v ps.length (flatE ps)) (hl : ps.length ≤ 1099511627776) (hk : KidsX w base v d ps) : RdE w base w.heap.size (d + 1) v (ps.map (·.1)) := by
  have hkid : ∀ p ∈ ps, RdE w base w.heap.size d p.2 p.1.args := fun p hp => by
    obtain ⟨Lp, Bp, h1, h2, h3, _⟩ := hk p hp
    exact h1.more h2 h3
  rcases h.2 with ⟨rfl, h0⟩ | ⟨g, cap, cur, rfl, hb, hh, hn, hc, hs, ht⟩
  · obtain rfl := List.eq_nil_of_length_eq_zero h0
    exact ⟨none, 0, rfl, by simp, fun k e hk => by simp at hk⟩
  · have hg : g < w.heap.size := by
      rcases Nat.lt_or_ge g w.heap.size with h1 | h1
      · exact h1
      · rw [Array.getElem?_eq_none h1] at hh; cases hh
    have he : ∀ i u, (flatE ps)[i]? = some u → w.cell? ⟨g, i, none⟩ = some u := fun i u hu => by
      rw [cell_of_row w g i cur _ _ hh, ← Array.getElem?_toList]
      rw [← ht, List.getElem?_take] at hu
      split at hu
      · exact hu
      · cases hu
    refine ⟨some ⟨g, 0, none⟩, cap, by rw [List.length_map], by rw [List.length_map]; exact hl, fun k e hk => ?_⟩
    rw [List.getElem?_map] at hk
    obtain ⟨p, hp, rfl⟩ := Option.map_eq_some_iff.1 hk
    refine ⟨⟨g, 0, none⟩, p.2, rfl, hb, hg, ?_, hkid p (List.mem_of_getElem? hp)⟩
    rw [addX]
    have G := fun j hj u hu => he (k * 7 + j) u ((flatE_get ps k p hp j hj).trans hu)
    exact ⟨G 0 (by decide) _ rfl, G 1 (by decide) _ rfl, G 2 (by decide) _ rfl, G 3 (by decide) _ rfl, G 4 (by decide) _ rfl, G 5 (by decide) _ rfl, G 6 (by decide) _ rfl⟩
theorem own_farX {w : World} {base n : Nat} {v : Value} {xs : List Value} (h : w.ownsRow base 65 7 v n xs) {p : Addr} (hp : p.block < base) (u : Value) : (w.setCell p u).ownsRow base 65 7 v n xs := by
  refine ⟨h.1, ?_⟩
  rcases h.2 with h0 | ⟨g, cap, cur, rfl, hb, hh, hr⟩
  · exact .inl h0
  · exact .inr ⟨g, cap, cur, rfl, hb, (Below.heap_setCell w p u g (by omega)).trans hh, hr⟩
/-- One step of a region: 'append' of an expression that was just laid into a block of its own. -/
theorem step_append_ex {ops : Array Oper} {o : Oper} {a : Act} {K : Act → World → Prop} {Q : Exit → Act → World → Prop} {E : Prop} (W : World) (hgd : o.guard = none) (s x : Operand)
    (ho : o.op = .call { callee := .builtin .append, args := #[s, x], argTypes := #[25, 25] }) (base : Nat) (v : Value) (l : List ExU) (hs : a.eval s = v)
    (hown : W.ownsRow base 65 7 v l.length (flatE l)) (g c : Nat) (p : ExU) (hp : ∃ A4 n4 c4, p.2 = .slice A4 n4 c4) (hx : a.eval x = .slice (some ⟨g, 0, none⟩) 1 c)
    (hnew : ∀ j u, (exL p)[j]? = some u → W.cell? ((⟨g, 0, none⟩ : Addr).add j) = some u) (hl : l.length ≤ 1099511627776) (hbase : base ≤ W.heap.size)
    (h : ∀ g' cap w', w'.ownsRow base 65 7 (.slice (some ⟨g', 0, none⟩) (l.length + 1) cap) (l ++ [p]).length (flatE (l ++ [p])) → W.grownBy w' v.ownBlock → (v.ownBlock = some g' ∨ g' = W.heap.size) → g' < w'.heap.size → K (a.put o.dst (.slice (some ⟨g', 0, none⟩) (l.length + 1) cap)) w') :
    if Region.wanted o (yielded ops a.tmps) = true then Oper.wp Try.prog o a W K Q else E := by
  obtain ⟨i0, hi, hz0, hz1, hz2⟩ := info_partsB infoX
  obtain ⟨A4, n4, c4, hp⟩ := hp
  refine step_append_lies W hgd s x 25 ho base 65 i0 (.agg #[.int .i64 0, .int .i64 0, .int .i64 0, .int .i64 0, .string ⟨#[]⟩, .string ⟨#[]⟩, .slice none 0 0]) 7 88 Try.underlying25 hi hz0 hz1 hz2 rfl (by decide) v l.length (flatE l) hs hown ⟨g, 0, none⟩ 1 c (exL p) hx rfl hnew (fun u hu => ?_) (by decide) (by unfold maxLen; omega) (by omega) hbase W.heap.size rfl ?_
  · simp only [exL, List.mem_cons, List.not_mem_nil, or_false, hp] at hu
    rcases hu with rfl | rfl | rfl | rfl | rfl | rfl | rfl <;> rfl
  · intro g' cap w' h1 h2 h3 h4
    refine h g' cap w' ?_ h2 h3 h4
    rw [flatE_append, List.length_append]
    show w'.ownsRow base _ 7 _ (l.length + 1) (flatE l ++ (exL p ++ []))
    rw [List.append_nil]
    exact h1
end Go.Proofs.Yteihjneeiojgaaa
/-
  Shift, by the reference: a tree in new memory. Conditions: lengths, a bounded depth.
-/
namespace Go.Proofs.Yteihjneeiojgaaa
set_option maxRecDepth 100000
set_option linter.unusedVariables false
set_option linter.unusedSimpArgs false
open Go.RowKit

theorem Own.grownX {w w' : World} {g : Nat} {t : TypeId} {cs : Array Value} (h : Own w g t cs) {row : Option Nat} (hg : w.grownBy w' row) (hne : ∀ b, row = some b → b ≠ g) : Own w' g t cs := by
  have hlt := h.lt
  unfold Own at h ⊢
  rw [hg.block g hlt (fun e => hne g e.symm rfl)]
  exact h
theorem ownX_ge {w : World} {base n : Nat} {v : Value} {xs : List Value} (h : w.ownsRow base 65 7 v n xs) : ∀ g, v.ownBlock = some g → base ≤ g := fun g hg => (h.lt g hg).1
theorem ownX_shape {w : World} {base n : Nat} {v : Value} {xs : List Value} (h : w.ownsRow base 65 7 v n xs) : ∃ Av cv, v = .slice Av n cv := by
  rcases h.2 with ⟨rfl, rfl⟩ | ⟨g, cap, cur, rfl, _⟩
  · exact ⟨_, _, rfl⟩
  · exact ⟨_, _, rfl⟩
theorem lit_ex (W : World) (p : ExU) : ∀ j u, (exL p)[j]? = some u → (W.alloc (.cells #[.int .i64 p.1.op, .int .i64 p.1.n, .int .i64 p.1.v.1, .int .i64 p.1.v.2.1, .string p.1.v.2.2, .string p.1.nm, p.2] 65)).cell? ((⟨W.heap.size, 0, none⟩ : Addr).add j) = some u := fun j u hu => by
  rw [addX, (Own.new W 65 _).cell j]
  rw [← hu]
  exact List.getElem?_toArray ..
end Go.Proofs.Yteihjneeiojgaaa
