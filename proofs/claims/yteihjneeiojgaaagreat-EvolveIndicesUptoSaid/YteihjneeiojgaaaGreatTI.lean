import Derived.Test.YteihjneeiojgaaaGreatSExUa
import Derived.Deep.AppendLies
import Derived.WalkKit
import Derived.WalkSpells
import Derived.WalkLawsBesides
import Derived.Deep.QuietTactic
import Derived.BigQuiet
import Derived.Handy
import Derived.Lib.Hide
import Derived.Test.YteihjneeiojgaaaGreatTE
/-
  Trees that are appended one after another to a row of the call's own. Conditions: lengths.
-/
namespace Go.Proofs.YteihjneeiojgaaaGreat
set_option maxRecDepth 100000
set_option linter.unusedVariables false
set_option linter.unusedSimpArgs false
open Go.RowKit

/-- A change that leaves all blocks but one as they were leaves the trees beside it. -/
theorem RdE.grown {w w' : World} {L B : Nat} {row : Option Nat} (hg : w.grownBy w' row) (hB : B ≤ w.heap.size) (hne : ∀ g, row = some g → g < L ∨ B ≤ g) : ∀ {d : Nat} {u : Value} {es : List Ex}, RdE w L B d u es → RdE w' L B d u es
  | 0, _, _, h => h
  | d + 1, u, es, ⟨A, c, hv, hl, hc⟩ => ⟨A, c, hv, hl, fun k e hk => by
      obtain ⟨ad, x, h1, h2, h3, h4, h5⟩ := hc k e hk
      have hq : ∀ a : Addr, a.block = ad.block → w'.cell? a = w.cell? a := fun a ha => World.grownBy.cell_far hg a (by omega) (by
        rw [ha]
        intro e2
        rcases hne _ e2.symm with h | h <;> omega)
      have hk7 : ∀ i, (⟨(ad.add (k * 7)).block, (ad.add (k * 7)).off + i, none⟩ : Addr).block = ad.block := fun i => add_blk ad (k * 7)
      obtain ⟨q0, q1, q2, q3, q4, q5, q6⟩ := h4
      exact ⟨ad, x, h1, h2, h3, ⟨(hq _ (add_blk ad (k * 7))).trans q0, (hq _ (hk7 1)).trans q1, (hq _ (hk7 2)).trans q2, (hq _ (hk7 3)).trans q3, (hq _ (hk7 4)).trans q4, (hq _ (hk7 5)).trans q5, (hq _ (hk7 6)).trans q6⟩, RdE.grown hg hB hne h5⟩⟩
/-- The arguments of the expressions ps lie above base and beside the row v. -/
def KidsX (w : World) (base : Nat) (v : Value) (d : Nat) (ps : List ExU) : Prop := ∀ p ∈ ps, ∃ Lp Bp, RdE w Lp Bp d p.2 p.1.args ∧ Bp ≤ w.heap.size ∧ base ≤ Lp ∧ ∀ g, v.ownBlock = some g → g < Lp ∨ Bp ≤ g
theorem KidsX.below {w w' : World} {base : Nat} {v : Value} {d : Nat} {ps : List ExU} (h : KidsX w base v d ps) (hb : Below w.heap.size w w') : KidsX w' base v d ps := fun p hp => by
  obtain ⟨Lp, Bp, h1, h2, h3, h4⟩ := h p hp
  exact ⟨Lp, Bp, h1.below (hb.mono h2), Nat.le_trans h2 hb.size, h3, h4⟩
theorem KidsX.far {w : World} {base : Nat} {v : Value} {d : Nat} {ps : List ExU} (h : KidsX w base v d ps) {p : Addr} (hp : p.block < base) (u : Value) : KidsX (w.setCell p u) base v d ps := fun q hq => by
  obtain ⟨Lp, Bp, h1, h2, h3, h4⟩ := h q hq
  exact ⟨Lp, Bp, h1.far (by omega), by rw [World.size_setCell]; exact h2, h3, h4⟩
theorem KidsX.grown {W w' : World} {base g n c : Nat} {v : Value} {d : Nat} {ps : List ExU} (h : KidsX W base v d ps) (hg : W.grownBy w' v.ownBlock) (hv : v.ownBlock = some g ∨ g = W.heap.size) : KidsX w' base (.slice (some ⟨g, 0, none⟩) n c) d ps := fun p hp => by
  obtain ⟨Lp, Bp, h1, h2, h3, h4⟩ := h p hp
  refine ⟨Lp, Bp, h1.grown hg h2 h4, Nat.le_trans h2 hg.size, h3, fun g2 hg2 => ?_⟩
  have e : g = g2 := by simpa [Value.ownBlock] using hg2
  subst e
  rcases hv with hv | rfl
  · exact h4 _ hv
  · exact .inr h2
theorem KidsX.snoc {w : World} {base : Nat} {v : Value} {d : Nat} {ps : List ExU} {p : ExU} (h : KidsX w base v d ps) (hp : KidsX w base v d [p]) : KidsX w base v d (ps ++ [p]) := fun q hq => by
  rcases List.mem_append.1 hq with hq | hq
  · exact h q hq
  · exact hp q hq
/-- A tree that a call has just made lies beside any row that was there before. -/
theorem KidsX.one {W w' : World} {base : Nat} {v : Value} {d : Nat} {p : ExU} (h : RdE w' W.heap.size w'.heap.size d p.2 p.1.args) (hb : base ≤ W.heap.size) (hv : ∀ g, v.ownBlock = some g → g < W.heap.size) : KidsX w' base v d [p] := fun q hq => by
  rw [List.mem_singleton.1 hq]
  exact ⟨W.heap.size, w'.heap.size, h, Nat.le_refl _, hb, fun g hg => .inl (hv g hg)⟩
theorem ownX_lt {w : World} {base n : Nat} {v : Value} {xs : List Value} (h : w.ownsRow base 73 7 v n xs) : ∀ g, v.ownBlock = some g → g < w.heap.size := fun g hg => (h.lt g hg).2
theorem rdE_own {w : World} {base d : Nat} {v : Value} {ps : List ExU} (h : w.ownsRow base 73 7 v ps.length (flatE ps)) (hl : ps.length ≤ 1099511627776) (hk : KidsX w base v d ps) : RdE w base w.heap.size (d + 1) v (ps.map (·.1)) := by
  have hkid : ∀ p ∈ ps, RdE w base w.heap.size d p.2 p.1.args := fun p hp => by
    obtain ⟨Lp, Bp, h1, h2, h3, _⟩ := hk p hp
    exact h1.more h2 h3
  rcases h.2 with ⟨rfl, h0⟩ | ⟨g, cap, cur, rfl, hb, hh, hn, hc, hs, ht⟩
  · obtain rfl := List.eq_nil_of_length_eq_zero h0
    exact ⟨none, 0, rfl, by simp, fun k e hk => by simp at hk⟩
  · have hg : g < w.heap.size := by
      rcases Nat.lt_or_ge g w.heap.size with h1 | h1
      · exact h1
      · rw [Array.getElem?_eq_none h1] at hh; cases hh
    have he : ∀ i u, (flatE ps)[i]? = some u → w.cell? ⟨g, i, none⟩ = some u := fun i u hu => by
      rw [cell_of_row w g i cur _ _ hh, ← Array.getElem?_toList]
      rw [← ht, List.getElem?_take] at hu
      split at hu
      · exact hu
      · cases hu
    refine ⟨some ⟨g, 0, none⟩, cap, by rw [List.length_map], by rw [List.length_map]; exact hl, fun k e hk => ?_⟩
    rw [List.getElem?_map] at hk
    obtain ⟨p, hp, rfl⟩ := Option.map_eq_some_iff.1 hk
    refine ⟨⟨g, 0, none⟩, p.2, rfl, hb, hg, ?_, hkid p (List.mem_of_getElem? hp)⟩
    rw [addX]
    have G := fun j hj u hu => he (k * 7 + j) u ((flatE_get ps k p hp j hj).trans hu)
    exact ⟨G 0 (by decide) _ rfl, G 1 (by decide) _ rfl, G 2 (by decide) _ rfl, G 3 (by decide) _ rfl, G 4 (by decide) _ rfl, G 5 (by decide) _ rfl, G 6 (by decide) _ rfl⟩
theorem own_farX {w : World} {base n : Nat} {v : Value} {xs : List Value} (h : w.ownsRow base 73 7 v n xs) {p : Addr} (hp : p.block < base) (u : Value) : (w.setCell p u).ownsRow base 73 7 v n xs := by
  refine ⟨h.1, ?_⟩
  rcases h.2 with h0 | ⟨g, cap, cur, rfl, hb, hh, hr⟩
  · exact .inl h0
  · exact .inr ⟨g, cap, cur, rfl, hb, (Below.heap_setCell w p u g (by omega)).trans hh, hr⟩
/-- One step of a region: 'append' of an expression that was just laid into a block of its own. -/
theorem step_append_ex {ops : Array Oper} {o : Oper} {a : Act} {K : Act → World → Prop} {Q : Exit → Act → World → Prop} {E : Prop} (W : World) (hgd : o.guard = none) (s x : Operand)
    (ho : o.op = .call { callee := .builtin .append, args := #[s, x], argTypes := #[25, 25] }) (base : Nat) (v : Value) (l : List ExU) (hs : a.eval s = v)
    (hown : W.ownsRow base 73 7 v l.length (flatE l)) (g c : Nat) (p : ExU) (hp : ∃ A4 n4 c4, p.2 = .slice A4 n4 c4) (hx : a.eval x = .slice (some ⟨g, 0, none⟩) 1 c)
    (hnew : ∀ j u, (exL p)[j]? = some u → W.cell? ((⟨g, 0, none⟩ : Addr).add j) = some u) (hl : l.length ≤ 1099511627776) (hbase : base ≤ W.heap.size)
    (h : ∀ g' cap w', w'.ownsRow base 73 7 (.slice (some ⟨g', 0, none⟩) (l.length + 1) cap) (l ++ [p]).length (flatE (l ++ [p])) → W.grownBy w' v.ownBlock → (v.ownBlock = some g' ∨ g' = W.heap.size) → g' < w'.heap.size → K (a.put o.dst (.slice (some ⟨g', 0, none⟩) (l.length + 1) cap)) w') :
    if Region.wanted o (yielded ops a.tmps) = true then Oper.wp Tryz.prog o a W K Q else E := by
  obtain ⟨i0, hi, hz0, hz1, hz2⟩ := info_partsB infoX
  obtain ⟨A4, n4, c4, hp⟩ := hp
  refine step_append_lies W hgd s x 25 ho base 73 i0 (.agg #[.int .i64 0, .int .i64 0, .int .i64 0, .int .i64 0, .string ⟨#[]⟩, .string ⟨#[]⟩, .slice none 0 0]) 7 88 Tryz.underlying25 hi hz0 hz1 hz2 rfl (by decide) v l.length (flatE l) hs hown ⟨g, 0, none⟩ 1 c (exL p) hx rfl hnew (fun u hu => ?_) (by decide) (by unfold maxLen; omega) (by omega) hbase W.heap.size rfl ?_
  · simp only [exL, List.mem_cons, List.not_mem_nil, or_false, hp] at hu
    rcases hu with rfl | rfl | rfl | rfl | rfl | rfl | rfl <;> rfl
  · intro g' cap w' h1 h2 h3 h4
    refine h g' cap w' ?_ h2 h3 h4
    rw [flatE_append, List.length_append]
    show w'.ownsRow base _ 7 _ (l.length + 1) (flatE l ++ (exL p ++ []))
    rw [List.append_nil]
    exact h1
end Go.Proofs.YteihjneeiojgaaaGreat
/-
  Shift, by the reference: a tree in new memory. Conditions: lengths, a bounded depth.
-/
namespace Go.Proofs.YteihjneeiojgaaaGreat
set_option maxRecDepth 100000
set_option linter.unusedVariables false
set_option linter.unusedSimpArgs false
open Go.RowKit

theorem Own.grownX {w w' : World} {g : Nat} {t : TypeId} {cs : Array Value} (h : Own w g t cs) {row : Option Nat} (hg : w.grownBy w' row) (hne : ∀ b, row = some b → b ≠ g) : Own w' g t cs := by
  have hlt := h.lt
  unfold Own at h ⊢
  rw [hg.block g hlt (fun e => hne g e.symm rfl)]
  exact h
theorem ownX_ge {w : World} {base n : Nat} {v : Value} {xs : List Value} (h : w.ownsRow base 73 7 v n xs) : ∀ g, v.ownBlock = some g → base ≤ g := fun g hg => (h.lt g hg).1
theorem ownX_shape {w : World} {base n : Nat} {v : Value} {xs : List Value} (h : w.ownsRow base 73 7 v n xs) : ∃ Av cv, v = .slice Av n cv := by
  rcases h.2 with ⟨rfl, rfl⟩ | ⟨g, cap, cur, rfl, _⟩
  · exact ⟨_, _, rfl⟩
  · exact ⟨_, _, rfl⟩
theorem lit_ex (W : World) (p : ExU) : ∀ j u, (exL p)[j]? = some u → (W.alloc (.cells #[.int .i64 p.1.op, .int .i64 p.1.n, .int .i64 p.1.v.1, .int .i64 p.1.v.2.1, .string p.1.v.2.2, .string p.1.nm, p.2] 73)).cell? ((⟨W.heap.size, 0, none⟩ : Addr).add j) = some u := fun j u hu => by
  rw [addX, (Own.new W 73 _).cell j]
  rw [← hu]
  exact List.getElem?_toArray ..
set_option maxRecDepth 100000 in
set_option maxHeartbeats 12800000 in
theorem rShift_other (k : Int) (d : Nat) (IH0 : ∀ (e : Ex) (u : Value) (w : World) (L : Nat), RdE w L w.heap.size d u e.args → Calls Tryz.prog 56 #[exV e u, .int .i64 k] w (RetX w d (shX k d e)))
    (op n k1 k2 : Int) (s nm : ByteArray) (es : List Ex) (A : Option Addr) (c : Nat) (w : World) (L : Nat) (hl : es.length ≤ 1099511627776) (hc : ∀ (k : Nat) (e : Ex), es[k]? = some e → ∃ (ad : Addr) (u : Value), A = some ad ∧ L ≤ ad.block ∧ ad.block < w.heap.size ∧ ExC w (ad.add (k * 7)) e u ∧ RdE w L w.heap.size d u e.args) (h2b : (op == 2) = false) :
    Calls Tryz.prog 56 #[.agg #[.int .i64 op, .int .i64 n, .int .i64 k1, .int .i64 k2, .string s, .string nm, .slice A es.length c], .int .i64 k] w (RetX w (d + 1) ⟨op, n, (k1, k2, s), nm, es.map (shX k d)⟩) := by
  have IH := Lib.hid IH0
  have HC := Lib.hid hc
  clear hc IH0
  have HE0 := Lib.hid (show Own (((w.alloc (.cells #[.int .i64 op, .int .i64 n, .int .i64 k1, .int .i64 k2, .string s, .string nm, .slice A es.length c] 73)).alloc (.cells #[.int .i64 0, .int .i64 0, .int .i64 0, .int .i64 0, .string ⟨#[]⟩, .string ⟨#[]⟩, .slice none 0 0] 73)).alloc (.cells #[.int .i64 op, .int .i64 n, .int .i64 k1, .int .i64 k2, .string s, .string nm, .slice none 0 0] 73)) w.heap.size 73 #[.int .i64 op, .int .i64 n, .int .i64 k1, .int .i64 k2, .string s, .string nm, .slice A es.length c] from ((Own.new w _ _).alloc _).alloc _)
  have HO0 := Lib.hid (show Own (((w.alloc (.cells #[.int .i64 op, .int .i64 n, .int .i64 k1, .int .i64 k2, .string s, .string nm, .slice A es.length c] 73)).alloc (.cells #[.int .i64 0, .int .i64 0, .int .i64 0, .int .i64 0, .string ⟨#[]⟩, .string ⟨#[]⟩, .slice none 0 0] 73)).alloc (.cells #[.int .i64 op, .int .i64 n, .int .i64 k1, .int .i64 k2, .string s, .string nm, .slice none 0 0] 73)) (w.heap.size + 1) 73 #[.int .i64 0, .int .i64 0, .int .i64 0, .int .i64 0, .string ⟨#[]⟩, .string ⟨#[]⟩, .slice none 0 0] from (Va.own_two _).alloc _)
  have HU0 := Lib.hid (show Own (((w.alloc (.cells #[.int .i64 op, .int .i64 n, .int .i64 k1, .int .i64 k2, .string s, .string nm, .slice A es.length c] 73)).alloc (.cells #[.int .i64 0, .int .i64 0, .int .i64 0, .int .i64 0, .string ⟨#[]⟩, .string ⟨#[]⟩, .slice none 0 0] 73)).alloc (.cells #[.int .i64 op, .int .i64 n, .int .i64 k1, .int .i64 k2, .string s, .string nm, .slice none 0 0] 73)) (w.heap.size + 1 + 1) 73 #[.int .i64 op, .int .i64 n, .int .i64 k1, .int .i64 k2, .string s, .string nm, .slice none 0 0] from by have h := Own.new ((w.alloc (.cells #[.int .i64 op, .int .i64 n, .int .i64 k1, .int .i64 k2, .string s, .string nm, .slice A es.length c] 73)).alloc (.cells #[.int .i64 0, .int .i64 0, .int .i64 0, .int .i64 0, .string ⟨#[]⟩, .string ⟨#[]⟩, .slice none 0 0] 73)) 73 #[.int .i64 op, .int .i64 n, .int .i64 k1, .int .i64 k2, .string s, .string nm, .slice none 0 0]; simp only [World.size_alloc] at h; exact h)
  have HB0 := Lib.hid (show Below w.heap.size w (((w.alloc (.cells #[.int .i64 op, .int .i64 n, .int .i64 k1, .int .i64 k2, .string s, .string nm, .slice A es.length c] 73)).alloc (.cells #[.int .i64 0, .int .i64 0, .int .i64 0, .int .i64 0, .string ⟨#[]⟩, .string ⟨#[]⟩, .slice none 0 0] 73)).alloc (.cells #[.int .i64 op, .int .i64 n, .int .i64 k1, .int .i64 k2, .string s, .string nm, .slice none 0 0] 73)) from ((bel_mk w _).trans ((bel_mk _ _).mono (by simp))).trans ((bel_mk _ _).mono (by simp; omega)))
  have HR0 := Lib.hid (show (((w.alloc (.cells #[.int .i64 op, .int .i64 n, .int .i64 k1, .int .i64 k2, .string s, .string nm, .slice A es.length c] 73)).alloc (.cells #[.int .i64 0, .int .i64 0, .int .i64 0, .int .i64 0, .string ⟨#[]⟩, .string ⟨#[]⟩, .slice none 0 0] 73)).alloc (.cells #[.int .i64 op, .int .i64 n, .int .i64 k1, .int .i64 k2, .string s, .string nm, .slice none 0 0] 73)).ownsRow (w.heap.size + 3) 73 7 (.slice none 0 0) ([] : List ExU).length (flatE []) from World.ownsRow_nil _ _ _ 7)
  go_enter Tryz.func56, Tryz.ntmps56
  go_wp2_with fail
  go_loopw [6] (fun i wr => ∃ j : Nat, j ≤ es.length ∧ i = .int .i64 j ∧ Hid (∃ (v : Value) (ps : List ExU), ps.length = j ∧ ps.map (·.1) = (es.take j).map (shX k d) ∧ Own wr (w.heap.size + 1 + 1) 73 #[.int .i64 op, .int .i64 n, .int .i64 k1, .int .i64 k2, .string s, .string nm, v] ∧ wr.ownsRow (w.heap.size + 3) 73 7 v ps.length (flatE ps) ∧ KidsX wr (w.heap.size + 3) v d ps) ∧ Hid (Own wr w.heap.size 73 #[.int .i64 op, .int .i64 n, .int .i64 k1, .int .i64 k2, .string s, .string nm, .slice A es.length c]) ∧ Hid (Own wr (w.heap.size + 1) 73 #[.int .i64 0, .int .i64 0, .int .i64 0, .int .i64 0, .string ⟨#[]⟩, .string ⟨#[]⟩, .slice none 0 0]) ∧ Below w.heap.size w wr) (fun i _ => es.length - (intOf i).toNat)
  case atStart => exact ⟨0, Nat.zero_le _, rfl, Lib.hid ⟨.slice none 0 0, [], rfl, rfl, HU0.out, HR0.out, fun p hp => by simp at hp⟩, HE0, HO0, HB0.out⟩
  case round =>
    clear HE0 HO0 HU0 HB0 HR0
    obtain ⟨j, hj, rfl, HQ, HE, HO, hbr⟩ := hrel
    have hbz := hbr.size
    obtain ⟨v, ps, hps, hpm, hU, hRow, hKid⟩ := HQ.out
    subst hps
    obtain ⟨Av, cv, rfl⟩ := ownX_shape hRow
    have hu6 := hU.cell 6
    have he6 := HE.out.cell 6
    by_cases hlt : ps.length < es.length
    · have hji : (ps.length : Int) < es.length := by omega
      obtain ⟨ad, x, rfl, _, hab, hxc, hxr⟩ := HC.out ps.length _ (List.getElem?_eq_getElem hlt)
      have htk : (es.take (ps.length + 1)).map (shX k d) = (es.take ps.length).map (shX k d) ++ [shX k d es[ps.length]] := by rw [List.take_add_one, List.getElem?_eq_getElem hlt, List.map_append]; rfl
      generalize es[ps.length] = y at *
      obtain ⟨A3, c3, rfl, hl3⟩ := hxr.slice
      obtain ⟨x0, x1, x2, x3, x4, x5, x6⟩ := hxc.below hbr (by rw [add_blk]; exact hab)
      have HCL := Lib.hid (fun (W : World) (hb : Below w.heap.size w W) => IH.out y (.slice A3 y.args.length c3) W L (hxr.step hb (Nat.le_refl _)))
      rw [← hpm] at htk
      have HTK := Lib.hid htk
      have HU := Lib.hid hU
      have HRow := Lib.hid hRow
      have HKid := Lib.hid hKid
      have HBD := Lib.hid (show Below w.heap.size w wr.drew from hbr.drew)
      have HUD := Lib.hid (show Own wr.drew (w.heap.size + 1 + 1) 73 #[.int .i64 op, .int .i64 n, .int .i64 k1, .int .i64 k2, .string s, .string nm, .slice Av ps.length cv] from hU)
      have HED := Lib.hid (show Own wr.drew w.heap.size 73 #[.int .i64 op, .int .i64 n, .int .i64 k1, .int .i64 k2, .string s, .string nm, .slice (some ad) es.length c] from HE.out)
      have HOD := Lib.hid (show Own wr.drew (w.heap.size + 1) 73 #[.int .i64 0, .int .i64 0, .int .i64 0, .int .i64 0, .string ⟨#[]⟩, .string ⟨#[]⟩, .slice none 0 0] from HO.out)
      have HRD := Lib.hid (show wr.drew.ownsRow (w.heap.size + 3) 73 7 (.slice Av ps.length cv) ps.length (flatE ps) from own_below hRow (Below.refl _ _).drew)
      have HKD := Lib.hid (show KidsX wr.drew (w.heap.size + 3) (.slice Av ps.length cv) d ps from hKid.below (Below.refl _ _).drew)
      have hz3 : w.heap.size + 3 ≤ wr.drew.heap.size := hU.lt
      unfold exV at HCL
      generalize hrr : shX k d y = r at *
      obtain ⟨r0, r1, ⟨r2, r3, r4⟩, r5, r6⟩ := r
      have HCL := Lib.hid (show ∀ (W : World), Below w.heap.size w W → Calls Tryz.prog 56 #[.agg #[.int .i64 y.op, .int .i64 y.n, .int .i64 y.v.1, .int .i64 y.v.2.1, .string y.v.2.2, .string y.nm, .slice A3 y.args.length c3], .int .i64 k] W fun e w' => ∃ A4 c4, e = .returned (.agg #[.int .i64 r0, .int .i64 r1, .int .i64 r2, .int .i64 r3, .string r4, .string r5, .slice A4 r6.length c4]) ∧ RdE w' W.heap.size w'.heap.size d (.slice A4 r6.length c4) r6 ∧ Below W.heap.size W w' from fun W hb => (HCL.out W hb).mono fun e w' h => by
        obtain ⟨u4, h1, h2, h3⟩ := h
        obtain ⟨A4, c4, rfl, _⟩ := h2.slice
        exact ⟨A4, c4, h1, h2, h3⟩)
      clear hxc hxr htk hrr hU hRow hKid hpm HQ HE HO
      go_wp2_with fail
      go_region_law (first
        | (go_simp; go_at_call 56; with_reducible refine (HCL.out _ HBD.out).mono ?_; rintro e w4 ⟨A4, c4, rfl, hr4, hb4⟩; have q6 := (HUD.out.below hb4 HUD.out.lt).cell 6; have HR4 := Lib.hid hr4; have HB4 := Lib.hid hb4; have HZ4 := Lib.hid (Nat.le_trans hz3 hb4.size); have hz4 : w.heap.size + 1 + 1 < w4.heap.size := (by have := HZ4.out; omega); clear hr4 hb4)
        | (refine step_append_ex _ rfl _ _ rfl (w.heap.size + 3) (.slice Av ps.length cv) ps rfl (own_below (own_below HRD.out HB4.out) (bel_mk _ _)) w4.heap.size _ (⟨r0, r1, (r2, r3, r4), r5, r6⟩, .slice A4 r6.length c4) ⟨_, _, _, rfl⟩ rfl (lit_ex w4 (⟨r0, r1, (r2, r3, r4), r5, r6⟩, .slice A4 r6.length c4)) (by omega) (by have := HZ4.out; simp only [World.size_alloc]; omega) ?_; intro g6 cap6 w6 hr6 hg6 hv6 hl6; have hU6 := ((HUD.out.below HB4.out HUD.out.lt).alloc (.cells #[.int .i64 r0, .int .i64 r1, .int .i64 r2, .int .i64 r3, .string r4, .string r5, .slice A4 r6.length c4] 73)).grownX hg6 (fun b hb => by have := ownX_ge HRD.out b hb; omega); have c6 := hU6.cell 6; have k6 := hU6.free 6; have HU6 := Lib.hid hU6; have HR6 := Lib.hid hr6; have HG6 := Lib.hid hg6; have HV6 := Lib.hid hv6; clear hU6 hr6 hg6 hv6 hl6))
      all_goals
        have hge : ∀ b, (Value.slice Av ps.length cv).ownBlock = some b → w.heap.size + 3 ≤ b := fun b hb => ownX_ge HRD.out b hb
        have HGE := Lib.hid hge
        have HE7 := Lib.hid ((((HED.out.below HB4.out HED.out.lt).alloc (.cells #[.int .i64 r0, .int .i64 r1, .int .i64 r2, .int .i64 r3, .string r4, .string r5, .slice A4 r6.length c4] 73)).grownX HG6.out (fun b hb => by have := HGE.out b hb; omega)).far (p := ⟨w.heap.size + 1 + 1, 6, none⟩) (by show w.heap.size ≠ w.heap.size + 1 + 1; omega) (.slice (some ⟨g6, 0, none⟩) (ps.length + 1) cap6))
        have HO7 := Lib.hid ((((HOD.out.below HB4.out HOD.out.lt).alloc (.cells #[.int .i64 r0, .int .i64 r1, .int .i64 r2, .int .i64 r3, .string r4, .string r5, .slice A4 r6.length c4] 73)).grownX HG6.out (fun b hb => by have := HGE.out b hb; omega)).far (p := ⟨w.heap.size + 1 + 1, 6, none⟩) (by show w.heap.size + 1 ≠ w.heap.size + 1 + 1; omega) (.slice (some ⟨g6, 0, none⟩) (ps.length + 1) cap6))
        have HK7 := Lib.hid (((((HKD.out.below HB4.out).snoc (KidsX.one (p := (⟨r0, r1, (r2, r3, r4), r5, r6⟩, .slice A4 r6.length c4)) HR4.out hz3 (ownX_lt HRD.out))).below (bel_mk _ (.cells #[.int .i64 r0, .int .i64 r1, .int .i64 r2, .int .i64 r3, .string r4, .string r5, .slice A4 r6.length c4] 73))).grown (n := ps.length + 1) (c := cap6) HG6.out HV6.out).far (p := ⟨w.heap.size + 1 + 1, 6, none⟩) (by show w.heap.size + 1 + 1 < w.heap.size + 3; omega) (.slice (some ⟨g6, 0, none⟩) (ps.length + 1) cap6))
        have HB7 := Lib.hid ((((HBD.out.trans (HB4.out.mono HBD.out.size)).trans ((bel_mk _ (.cells #[.int .i64 r0, .int .i64 r1, .int .i64 r2, .int .i64 r3, .string r4, .string r5, .slice A4 r6.length c4] 73)).mono (by have := HZ4.out; omega))).grown HG6.out (by have := HZ4.out; simp only [World.size_alloc]; omega) (fun b hb => by have := HGE.out b hb; omega)).setCell (p := ⟨w.heap.size + 1 + 1, 6, none⟩) (by show w.heap.size ≤ w.heap.size + 1 + 1; omega) (.slice (some ⟨g6, 0, none⟩) (ps.length + 1) cap6))
        have HU7 := Lib.hid (HU6.out.store 6 (.slice (some ⟨g6, 0, none⟩) (ps.length + 1) cap6))
        have HR7 := Lib.hid (own_farX HR6.out (p := ⟨w.heap.size + 1 + 1, 6, none⟩) (by show w.heap.size + 1 + 1 < w.heap.size + 3; omega) (.slice (some ⟨g6, 0, none⟩) (ps.length + 1) cap6))
        clear hge hz3 hz4 c6 k6 q6 x0 x1 x2 x3 x4 x5 x6 hu6 he6
        go_wp2
        go_roundw
        case rel => exact ⟨ps.length + 1, by omega, by go_num, Lib.hid ⟨_, ps ++ [(⟨r0, r1, (r2, r3, r4), r5, r6⟩, .slice A4 r6.length c4)], by simp, by rw [HTK.out, List.map_append]; rfl, HU7.out, HR7.out, HK7.out⟩, HE7, HO7, HB7.out⟩
        case measure => simp [intOf]; omega
    · have hji : ¬ (ps.length : Int) < es.length := by omega
      have hje : ps.length = es.length := by omega
      have HT := Lib.hid (show RdE wr (w.heap.size + 3) wr.heap.size (d + 1) (.slice Av ps.length cv) (es.map (shX k d)) from by
        have h := rdE_own hRow (by omega) hKid
        rw [hpm, hje, List.take_length] at h
        rw [hje]
        exact h)
      have HO3 := HO
      have HB3 := Lib.hid hbr
      have HUU := Lib.hid hU
      clear hRow hKid hpm HQ hbr hbz hU hu6 hje hlt HC IH
      have e0 := HUU.out.cell 0
      have e1 := HUU.out.cell 1
      have e2 := HUU.out.cell 2
      have e3 := HUU.out.cell 3
      have e4 := HUU.out.cell 4
      have e5 := HUU.out.cell 5
      have e6 := HUU.out.cell 6
      have o0 := HO3.out.cell 0
      have o1 := HO3.out.cell 1
      have o2 := HO3.out.cell 2
      have o3 := HO3.out.cell 3
      have o4 := HO3.out.cell 4
      have o5 := HO3.out.cell 5
      have o6 := HO3.out.cell 6
      have m0 := HO3.out.free 0
      have m1 := HO3.out.free 1
      have m2 := HO3.out.free 2
      have m3 := HO3.out.free 3
      have m4 := HO3.out.free 4
      have m5 := HO3.out.free 5
      have m6 := HO3.out.free 6
      have HX := Lib.hid (((((((HO3.out.store 0 (.int .i64 op)).store 1 (.int .i64 n)).store 2 (.int .i64 k1)).store 3 (.int .i64 k2)).store 4 (.string s)).store 5 (.string nm)).store 6 (.slice Av ps.length cv))
      go_wp2
      (try simp only [Exit.inBlock, Exit.then]); refine bodyPost_ret_by (results_cell_row1 (by rfl) _ _ (w.heap.size + 1) _ (by rfl) (load_ex HX.out)) ?_ ?_; (focus rfl); refine ⟨_, rfl, ?_, ?_⟩
      · simp only [World.size_setCell]
        refine RdE.more (Nat.le_refl _) (show w.heap.size ≤ w.heap.size + 3 by omega) ?_
        exact (((((((HT.out).far (by show w.heap.size + 1 < _; omega)).far (by show w.heap.size + 1 < _; omega)).far (by show w.heap.size + 1 < _; omega)).far (by show w.heap.size + 1 < _; omega)).far (by show w.heap.size + 1 < _; omega)).far (by show w.heap.size + 1 < _; omega)).far (by show w.heap.size + 1 < _; omega)
      · exact (((((((HB3.out).setCell (by show w.heap.size ≤ w.heap.size + 1; omega) _).setCell (by show w.heap.size ≤ w.heap.size + 1; omega) _).setCell (by show w.heap.size ≤ w.heap.size + 1; omega) _).setCell (by show w.heap.size ≤ w.heap.size + 1; omega) _).setCell (by show w.heap.size ≤ w.heap.size + 1; omega) _).setCell (by show w.heap.size ≤ w.heap.size + 1; omega) _).setCell (by show w.heap.size ≤ w.heap.size + 1; omega) _
end Go.Proofs.YteihjneeiojgaaaGreat
