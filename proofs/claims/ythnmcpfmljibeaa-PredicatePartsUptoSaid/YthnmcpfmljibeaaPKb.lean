import Derived.Test.YthnmcpfmljibeaaPK
import Derived.WalkKit
import Derived.WalkSpells
import Derived.WalkLawsBesides
import Derived.Deep.QuietTactic
import Derived.BigQuiet
import Derived.Handy
import Derived.Lib.Hide
import Derived.Test.YthnmcpfmljibeaaPV
import Derived.Laws.OwnMore
import Derived.Deep.AppendLies
/-
  condition, over any expression. Conditions: lengths.
-/
namespace Go.Proofs.Ythnmcpfmljibeaa
set_option maxRecDepth 100000
set_option linter.unusedVariables false
set_option linter.unusedSimpArgs false
open Go.RowKit

set_option maxRecDepth 100000 in
set_option maxHeartbeats 6400000 in
theorem pCnd_none (op n k1 k2 : Int) (s nm : ByteArray) (A : Option Addr) (l c : Nat) (w : World) (h : cmqO op = false ∨ l ≠ 2) :
    Calls Try.prog 63 #[.agg #[.int .i64 op, .int .i64 n, .int .i64 k1, .int .i64 k2, .string s, .string nm, .slice A l c]] w fun e' w' => e' = .returned (.tuple #[.agg #[.int .i64 0, .int .i64 0, .int .i64 0, .int .i64 0, .string ⟨#[]⟩], .bool false]) ∧ Below w.heap.size w w' := by
  have HI := Lib.hid (fun W => pIsC_any op W)
  have HE0 := Lib.hid (show Own ((w.alloc (.cells #[.int .i64 op, .int .i64 n, .int .i64 k1, .int .i64 k2, .string s, .string nm, .slice A l c] 26)).alloc (.cells #[.int .i64 0, .int .i64 0, .int .i64 0, .int .i64 0, .string ⟨#[]⟩] 62)) w.heap.size 26 #[.int .i64 op, .int .i64 n, .int .i64 k1, .int .i64 k2, .string s, .string nm, .slice A l c] from (Own.new w _ _).alloc _)
  have HO0 := Lib.hid (show Own ((w.alloc (.cells #[.int .i64 op, .int .i64 n, .int .i64 k1, .int .i64 k2, .string s, .string nm, .slice A l c] 26)).alloc (.cells #[.int .i64 0, .int .i64 0, .int .i64 0, .int .i64 0, .string ⟨#[]⟩] 62)) (w.heap.size + 1) 62 #[.int .i64 0, .int .i64 0, .int .i64 0, .int .i64 0, .string ⟨#[]⟩] from Va.own_two _)
  have HB0 := Lib.hid (show Below w.heap.size w ((w.alloc (.cells #[.int .i64 op, .int .i64 n, .int .i64 k1, .int .i64 k2, .string s, .string nm, .slice A l c] 26)).alloc (.cells #[.int .i64 0, .int .i64 0, .int .i64 0, .int .i64 0, .string ⟨#[]⟩] 62)) from (bel_mk w _).trans ((bel_mk _ _).mono (by simp)))
  cases ho : cmqO op
  · rw [ho] at HI
    clear h ho
    go_enter Try.func63, Try.ntmps63
    go_wp2_with fail
    with_reducible refine (HI.out _).mono ?_
    rintro e w1 ⟨rfl, hb1⟩
    have HE1 := Lib.hid (HE0.out.below hb1 HE0.out.lt)
    have HO1 := Lib.hid (HO0.out.below hb1 HO0.out.lt)
    have HB1 := Lib.hid (HB0.out.trans (hb1.mono HB0.out.size))
    clear hb1 HE0 HO0 HB0
    have e6 := HE1.out.cell 6
    have o0 := HO1.out.cell 0
    have o1 := HO1.out.cell 1
    have o2 := HO1.out.cell 2
    have o3 := HO1.out.cell 3
    have o4 := HO1.out.cell 4
    have m0 := HO1.out.free 0
    have m1 := HO1.out.free 1
    have m2 := HO1.out.free 2
    have m3 := HO1.out.free 3
    have m4 := HO1.out.free 4
    go_wp2
    have hx := ((((HO1.out.store 0 (.int .i64 0)).store 1 (.int .i64 0)).store 2 (.int .i64 0)).store 3 (.int .i64 0)).store 4 (.string ⟨#[]⟩)
    simp only [List.setIfInBounds_toArray, List.set_cons_zero, List.set_cons_succ] at hx
    (try simp only [Exit.inBlock, Exit.then]); refine bodyPost_ret_by (rcell2 (by rfl) _ _ (w.heap.size + 1) _ (by rfl) (load_cnd hx)) ?_ ?_; (focus rfl)
    exact ⟨rfl, ((((HB1.out.setCell (p := ⟨w.heap.size + 1, 0, none⟩) (by show w.heap.size ≤ w.heap.size + 1; omega) _).setCell (p := ⟨w.heap.size + 1, 1, none⟩) (by show w.heap.size ≤ w.heap.size + 1; omega) _).setCell (p := ⟨w.heap.size + 1, 2, none⟩) (by show w.heap.size ≤ w.heap.size + 1; omega) _).setCell (p := ⟨w.heap.size + 1, 3, none⟩) (by show w.heap.size ≤ w.heap.size + 1; omega) _).setCell (p := ⟨w.heap.size + 1, 4, none⟩) (by show w.heap.size ≤ w.heap.size + 1; omega) _⟩
  · rw [ho] at HI h
    have hl5 : l ≠ 2 := by rcases h with h | h; cases h; exact h
    have hl4 : ¬ (l : Int) = 2 := by omega
    have hl3 : ((l : Int) == 2) = false := by rw [beq_eq_false_iff_ne]; exact hl4
    clear h ho
    go_enter Try.func63, Try.ntmps63
    go_wp2_with fail
    with_reducible refine (HI.out _).mono ?_
    rintro e w1 ⟨rfl, hb1⟩
    have HE1 := Lib.hid (HE0.out.below hb1 HE0.out.lt)
    have HO1 := Lib.hid (HO0.out.below hb1 HO0.out.lt)
    have HB1 := Lib.hid (HB0.out.trans (hb1.mono HB0.out.size))
    clear hb1 HE0 HO0 HB0
    have e6 := HE1.out.cell 6
    have o0 := HO1.out.cell 0
    have o1 := HO1.out.cell 1
    have o2 := HO1.out.cell 2
    have o3 := HO1.out.cell 3
    have o4 := HO1.out.cell 4
    have m0 := HO1.out.free 0
    have m1 := HO1.out.free 1
    have m2 := HO1.out.free 2
    have m3 := HO1.out.free 3
    have m4 := HO1.out.free 4
    go_wp2
    have hx := ((((HO1.out.store 0 (.int .i64 0)).store 1 (.int .i64 0)).store 2 (.int .i64 0)).store 3 (.int .i64 0)).store 4 (.string ⟨#[]⟩)
    simp only [List.setIfInBounds_toArray, List.set_cons_zero, List.set_cons_succ] at hx
    (try simp only [Exit.inBlock, Exit.then]); refine bodyPost_ret_by (rcell2 (by rfl) _ _ (w.heap.size + 1) _ (by rfl) (load_cnd hx)) ?_ ?_; (focus rfl)
    exact ⟨rfl, ((((HB1.out.setCell (p := ⟨w.heap.size + 1, 0, none⟩) (by show w.heap.size ≤ w.heap.size + 1; omega) _).setCell (p := ⟨w.heap.size + 1, 1, none⟩) (by show w.heap.size ≤ w.heap.size + 1; omega) _).setCell (p := ⟨w.heap.size + 1, 2, none⟩) (by show w.heap.size ≤ w.heap.size + 1; omega) _).setCell (p := ⟨w.heap.size + 1, 3, none⟩) (by show w.heap.size ≤ w.heap.size + 1; omega) _).setCell (p := ⟨w.heap.size + 1, 4, none⟩) (by show w.heap.size ≤ w.heap.size + 1; omega) _⟩
/-- The condition that an expression states, by the program. -/
theorem pCnd_any (d : Nat) (e : Ex) (A : Option Addr) (c : Nat) (w : World) (L : Nat) (h : RdE w L w.heap.size d (.slice A e.args.length c) e.args) :
    Calls Try.prog 63 #[exV e (.slice A e.args.length c)] w fun e' w' => e' = .returned (.tuple #[cndV (condE e), .bool (condE e).isSome]) ∧ Below w.heap.size w w' := by
  obtain ⟨op, n, ⟨k1, k2, s⟩, nm, es⟩ := e
  unfold exV
  dsimp only at h ⊢
  by_cases hl : es.length = 2
  · cases ho : cmqO op
    · rw [cnd_op op n (k1, k2, s) nm es ho]
      exact pCnd_none op n k1 k2 s nm A es.length c w (.inl ho)
    · match es, hl, h with
      | [a, b], _, h =>
        obtain ⟨d', rfl⟩ : ∃ d', d = d' + 1 := ⟨d - 1, by have := h.pos; omega⟩
        exact pCnd_two op n k1 k2 s nm a b A c w L d' h ho
  · rw [cnd_len op n (k1, k2, s) nm es hl]
    exact pCnd_none op n k1 k2 s nm A es.length c w (.inr hl)
end Go.Proofs.Ythnmcpfmljibeaa
/-
  Rows of conditions; the closure of Conditions, Conditions. Conditions: lengths.
-/
namespace Go.Proofs.Ythnmcpfmljibeaa
set_option maxRecDepth 100000
set_option linter.unusedVariables false
set_option linter.unusedSimpArgs false
open Go.RowKit

def cndL (c : Cnd) : List Value := [.int .i64 c.op, .int .i64 c.col, .int .i64 c.v.1, .int .i64 c.v.2.1, .string c.v.2.2]
def flatK : List Cnd → List Value
  | [] => []
  | p :: t => cndL p ++ flatK t
theorem flatK_append : ∀ a b : List Cnd, flatK (a ++ b) = flatK a ++ flatK b
  | [], b => rfl
  | p :: t, b => by
    show cndL p ++ flatK (t ++ b) = (cndL p ++ flatK t) ++ flatK b
    rw [flatK_append t b, List.append_assoc]
theorem flatK_len : ∀ a : List Cnd, (flatK a).length = a.length * 5
  | [] => rfl
  | p :: t => by
    show (cndL p ++ flatK t).length = _
    rw [List.length_append, flatK_len t, List.length_cons]
    show 5 + _ = _
    omega
theorem infoK : (Try.prog.info? 62).map (fun i => (i.zero, i.size, i.bytes)) = some (some (.agg #[.int .i64 0, .int .i64 0, .int .i64 0, .int .i64 0, .string ⟨#[]⟩]), 5, 48) := by kernel_rfl
theorem append_k1 {ops : Array Oper} {rest : List Oper} {o : Oper} {a : Act} {Q : Exit → Act → World → Prop} (W : World) (hgd : o.guard = none) (s x : Operand)
    (ho : o.op = .call { callee := .builtin .append, args := #[s, x], argTypes := #[59, 59] }) (base : Nat) (v : Value) (l : List Cnd) (hs : a.eval s = v)
    (hown : W.ownsRow base 62 5 v l.length (flatK l)) (g c : Nat) (p : Cnd) (hx : a.eval x = .slice (some ⟨g, 0, none⟩) 1 c)
    (hnew : ∀ j u, (cndL p)[j]? = some u → W.cell? ((⟨g, 0, none⟩ : Addr).add j) = some u) (hl : l.length ≤ 1099511627776) (hbase : base ≤ W.heap.size)
    (h : ∀ g' cap w', w'.ownsRow base 62 5 (.slice (some ⟨g', 0, none⟩) (l.length + 1) cap) (l ++ [p]).length (flatK (l ++ [p])) → W.grownBy w' v.ownBlock → (v.ownBlock = some g' ∨ g' = W.heap.size) → wpList Try.prog ops Q rest (a.put o.dst (.slice (some ⟨g', 0, none⟩) (l.length + 1) cap)) w') :
    wpList Try.prog ops Q (o :: rest) a W := by
  obtain ⟨i0, hi, hz0, hz1, hz2⟩ := info_partsB infoK
  refine wpList_append_lies W hgd s x 59 ho base 62 i0 (.agg #[.int .i64 0, .int .i64 0, .int .i64 0, .int .i64 0, .string ⟨#[]⟩]) 5 48 Try.underlying59 hi hz0 hz1 hz2 rfl (by decide) v l.length (flatK l) hs hown ⟨g, 0, none⟩ 1 c (cndL p) hx rfl hnew (fun u hu => ?_) (by decide) (by unfold maxLen; omega) (by omega) hbase W.heap.size rfl ?_
  · simp only [cndL, List.mem_cons, List.not_mem_nil, or_false] at hu
    rcases hu with rfl | rfl | rfl | rfl | rfl <;> rfl
  · intro g' cap w' h1 h2 h3 h4
    refine h g' cap w' ?_ h2 h3
    rw [flatK_append, List.length_append]
    show w'.ownsRow base _ 5 _ (l.length + 1) (flatK l ++ (cndL p ++ []))
    rw [List.append_nil]
    exact h1
theorem ownK_far {w : World} {base n : Nat} {v : Value} {xs : List Value} (h : w.ownsRow base 62 5 v n xs) {p : Addr} (hp : p.block < base) (u : Value) : (w.setCell p u).ownsRow base 62 5 v n xs := by
  refine ⟨h.1, ?_⟩
  rcases h.2 with h0 | ⟨g, cap, cur, rfl, hb, hh, hr⟩
  · exact .inl h0
  · exact .inr ⟨g, cap, cur, rfl, hb, (Below.heap_setCell w p u g (by omega)).trans hh, hr⟩
theorem ownK_shape {w : World} {base n : Nat} {v : Value} {xs : List Value} (h : w.ownsRow base 62 5 v n xs) : ∃ Av cv, v = .slice Av n cv := by
  rcases h.2 with ⟨rfl, rfl⟩ | ⟨g, cap, cur, rfl, _⟩
  · exact ⟨_, _, rfl⟩
  · exact ⟨_, _, rfl⟩
theorem lit_k (W : World) (p : Cnd) : ∀ j u, (cndL p)[j]? = some u → (W.alloc (.cells #[.int .i64 p.op, .int .i64 p.col, .int .i64 p.v.1, .int .i64 p.v.2.1, .string p.v.2.2] 62)).cell? ((⟨W.heap.size, 0, none⟩ : Addr).add j) = some u := fun j u hu => by
  rw [addX, (Own.new W 62 _).cell j]
  rw [← hu]
  exact List.getElem?_toArray ..
/-- The list of conditions that the closure keeps in the box g. -/
def RowN (w : World) (g base : Nat) (zs : List Cnd) : Prop := ∃ v, Own w g 59 #[v] ∧ w.ownsRow base 62 5 v zs.length (flatK zs)
set_option maxRecDepth 100000 in
set_option maxHeartbeats 6400000 in
theorem pCd1_any (d : Nat) (e : Ex) (u : Value) (g base L : Nat) (zs : List Cnd) (W : World) (hu : RdE W L W.heap.size d u e.args) (hR : RowN W g base zs) (hgb : g < base) (hbz : base ≤ W.heap.size) (hl : zs.length ≤ 1099511627776) :
    Calls Try.prog 62 #[exV e u, .pointer (some ⟨g, 0, none⟩)] W fun e' w' => e' = .returned (.tuple #[]) ∧ RowN w' g base (zs ++ (condE e).toList) ∧ Below g W w' := by
  obtain ⟨A, c, rfl, hel⟩ := hu.slice
  obtain ⟨v, hg, hown⟩ := hR
  obtain ⟨Av, cv, rfl⟩ := ownK_shape hown
  have b1 := bel_mk W (.cells (exA e (.slice A e.args.length c)) 26)
  have HC := Lib.hid (pCnd_any d e A c (W.alloc (.cells (exA e (.slice A e.args.length c)) 26)) L (hu.step b1 (Nat.le_refl _)))
  have HB1 := Lib.hid b1
  have HG1 := Lib.hid (hg.below b1 hg.lt)
  have HR1 := Lib.hid (own_below hown b1)
  have HGE := Lib.hid (show ∀ b, (Value.slice Av zs.length cv).ownBlock = some b → base ≤ b from fun b hb => (hown.lt b hb).1)
  have hgl := hg.lt
  clear hu hg hown b1
  unfold exV exA at *
  cases hcd : condE e with
  | none =>
    rw [hcd] at HC
    simp only [Option.toList_none, List.append_nil]
    unfold cndV at HC
    dsimp only [Option.isSome] at HC
    go_enter Try.func62, Try.ntmps62
    go_wp2_with fail
    with_reducible refine HC.out.mono ?_
    rintro e' w2 ⟨rfl, hb2⟩
    have HG2 := Lib.hid (HG1.out.below hb2 HG1.out.lt)
    have HR2 := Lib.hid (own_below HR1.out hb2)
    have HB2 := Lib.hid (HB1.out.trans (hb2.mono HB1.out.size))
    clear hb2
    go_wp2
    go_end0
    exact ⟨rfl, ⟨_, HG2.out.alloc _, own_below HR2.out (bel_mk _ _)⟩, (HB2.out.mono (Nat.le_of_lt hgl)).trans ((bel_mk _ _).mono (Nat.le_trans (Nat.le_of_lt hgl) HB2.out.size))⟩
  | some q =>
    rw [hcd] at HC
    simp only [Option.toList_some]
    unfold cndV at HC
    dsimp only [Option.isSome] at HC
    go_enter Try.func62, Try.ntmps62
    go_wp2_with fail
    with_reducible refine HC.out.mono ?_
    rintro e' w2 ⟨rfl, hb2⟩
    have HG2 := Lib.hid ((HG1.out.below hb2 HG1.out.lt).alloc (.cells #[.int .i64 q.op, .int .i64 q.col, .int .i64 q.v.1, .int .i64 q.v.2.1, .string q.v.2.2] 62))
    have HR2 := Lib.hid (own_below (own_below HR1.out hb2) (bel_mk _ (.cells #[.int .i64 q.op, .int .i64 q.col, .int .i64 q.v.1, .int .i64 q.v.2.1, .string q.v.2.2] 62)))
    have HB2 := Lib.hid ((HB1.out.trans (hb2.mono HB1.out.size)).trans ((bel_mk w2 (.cells #[.int .i64 q.op, .int .i64 q.col, .int .i64 q.v.1, .int .i64 q.v.2.1, .string q.v.2.2] 62)).mono (by have := HB1.out.size; have := hb2.size; omega)))
    have hg2 := HG2.out.cell 0
    have HB3 := Lib.hid (HB2.out.trans ((bel_mk _ (.cells #[.int .i64 q.op, .int .i64 q.col, .int .i64 q.v.1, .int .i64 q.v.2.1, .string q.v.2.2] 62)).mono HB2.out.size))
    have hl2 : g < w2.heap.size := by have := HG2.out.lt; have h1 := HB1.out.size; have h2 := hb2.size; omega
    have hc2 := (HG1.out.below hb2 HG1.out.lt).cell 0
    clear hb2
    go_wp2_with (at_builtin; refine append_k1 _ rfl _ _ rfl base _ zs rfl (own_below HR2.out (bel_mk _ (.cells #[.int .i64 q.op, .int .i64 q.col, .int .i64 q.v.1, .int .i64 q.v.2.1, .string q.v.2.2] 62))) (w2.heap.size + 1) 1 q rfl (by have h := lit_k (w2.alloc (.cells #[.int .i64 q.op, .int .i64 q.col, .int .i64 q.v.1, .int .i64 q.v.2.1, .string q.v.2.2] 62)) q; simpa only [World.size_alloc] using h) hl (by have := HB3.out.size; omega) ?_; intro g3 cap3 w3 hr3 hg3 hv3; have hgg := (HG2.out.alloc (.cells #[.int .i64 q.op, .int .i64 q.col, .int .i64 q.v.1, .int .i64 q.v.2.1, .string q.v.2.2] 62)).grownX hg3 (fun b hb => by have := HGE.out b hb; omega); have c0 := hgg.cell 0; have k0 := hgg.free 0; have HR3 := Lib.hid hr3; have HG3 := Lib.hid hg3; have HGG := Lib.hid hgg; clear hr3 hg3 hv3 hgg)
    go_end0
    refine ⟨rfl, ⟨_, HGG.out.store 0 _, ?_⟩, (((HB3.out.mono (Nat.le_of_lt hgl)).grown HG3.out (by have := HB3.out.size; omega) (fun b hb => by have := HGE.out b hb; omega)).setCell (p := ⟨g, 0, none⟩) (Nat.le_refl _) _)⟩
    rw [List.length_append]
    have h := ownK_far HR3.out (p := ⟨g, 0, none⟩) (by show g < base; exact hgb) (.slice (some ⟨g3, 0, none⟩) (zs.length + 1) cap3)
    rw [List.length_append] at h
    exact h
theorem RowN.below {W W' : World} {g base : Nat} {zs : List Cnd} (h : RowN W g base zs) (hb : Below W.heap.size W W') : RowN W' g base zs := by
  obtain ⟨v, h1, h2⟩ := h
  exact ⟨v, h1.below hb h1.lt, own_below h2 hb⟩
end Go.Proofs.Ythnmcpfmljibeaa
/-
  Conditions. Conditions: lengths.
-/
namespace Go.Proofs.Ythnmcpfmljibeaa
set_option maxRecDepth 100000
set_option linter.unusedVariables false
set_option linter.unusedSimpArgs false
open Go.RowKit

/-- The slice v holds the conditions zs. -/
def RdQ (w : World) (L B : Nat) (v : Value) (zs : List Cnd) : Prop :=
  ∃ A c, v = .slice A zs.length c ∧ zs.length ≤ 1099511627776 ∧ ∀ (k : Nat) (z : Cnd), zs[k]? = some z → ∃ ad : Addr, A = some ad ∧ L ≤ ad.block ∧ ad.block < B ∧
    w.cell? (ad.add (k * 5)) = some (.int .i64 z.op) ∧ w.cell? ⟨ad.block, ad.off + k * 5 + 1, none⟩ = some (.int .i64 z.col) ∧ w.cell? ⟨ad.block, ad.off + k * 5 + 2, none⟩ = some (.int .i64 z.v.1) ∧ w.cell? ⟨ad.block, ad.off + k * 5 + 3, none⟩ = some (.int .i64 z.v.2.1) ∧ w.cell? ⟨ad.block, ad.off + k * 5 + 4, none⟩ = some (.string z.v.2.2)
theorem RdQ.below {w w' : World} {L B : Nat} {v : Value} {zs : List Cnd} (h : RdQ w L B v zs) (hb : Below B w w') : RdQ w' L B v zs := by
  obtain ⟨A, c, h1, h2, h3⟩ := h
  refine ⟨A, c, h1, h2, fun k z hk => ?_⟩
  obtain ⟨ad, g1, g2, g3, c0, c1, c2, c3, c4⟩ := h3 k z hk
  exact ⟨ad, g1, g2, g3, (hb.cell (by rw [add_blk]; exact g3)).trans c0, (hb.cell (p := ⟨ad.block, _, none⟩) g3).trans c1, (hb.cell (p := ⟨ad.block, _, none⟩) g3).trans c2, (hb.cell (p := ⟨ad.block, _, none⟩) g3).trans c3, (hb.cell (p := ⟨ad.block, _, none⟩) g3).trans c4⟩
theorem RdQ.more {w : World} {L L' B B' : Nat} {v : Value} {zs : List Cnd} (h : RdQ w L B v zs) (hB : B ≤ B') (hL : L' ≤ L) : RdQ w L' B' v zs := by
  obtain ⟨A, c, h1, h2, h3⟩ := h
  refine ⟨A, c, h1, h2, fun k z hk => ?_⟩
  obtain ⟨ad, g1, g2, g3, g4⟩ := h3 k z hk
  exact ⟨ad, g1, by omega, by omega, g4⟩
theorem RdQ.step {w w' : World} {L B : Nat} {v : Value} {zs : List Cnd} (h : RdQ w L B v zs) (hb : Below w.heap.size w w') (hB : B ≤ w.heap.size) : RdQ w' L w'.heap.size v zs := ((h.more hB (Nat.le_refl _)).below hb).more hb.size (Nat.le_refl _)
theorem RdQ.far {w : World} {L B : Nat} {v : Value} {zs : List Cnd} (h : RdQ w L B v zs) {p : Addr} (hp : p.block < L) (u : Value) : RdQ (w.setCell p u) L B v zs := by
  obtain ⟨A, c, h1, h2, h3⟩ := h
  refine ⟨A, c, h1, h2, fun k z hk => ?_⟩
  obtain ⟨ad, g1, g2, g3, c0, c1, c2, c3, c4⟩ := h3 k z hk
  have hne : p.block ≠ ad.block := by omega
  exact ⟨ad, g1, g2, g3, (World.cell?_setCell_far w p (ad.add (k * 5)) u (by rw [add_blk]; exact hne)).trans c0, (World.cell?_setCell_far w p ⟨ad.block, _, none⟩ u hne).trans c1, (World.cell?_setCell_far w p ⟨ad.block, _, none⟩ u hne).trans c2, (World.cell?_setCell_far w p ⟨ad.block, _, none⟩ u hne).trans c3, (World.cell?_setCell_far w p ⟨ad.block, _, none⟩ u hne).trans c4⟩
theorem flatK_get (ps : List Cnd) (k : Nat) (p : Cnd) (h : ps[k]? = some p) (j : Nat) (hj : j < 5) : (flatK ps)[k * 5 + j]? = (cndL p)[j]? := by
  obtain ⟨hk, rfl⟩ := List.getElem?_eq_some_iff.1 h
  have e : ps = ps.take k ++ ps[k] :: ps.drop (k + 1) := by rw [List.getElem_cons_drop, List.take_append_drop]
  have e2 : flatK ps = flatK (ps.take k) ++ (cndL ps[k] ++ flatK (ps.drop (k + 1))) := by
    conv => lhs; rw [e]
    rw [flatK_append]
    rfl
  have hl : (flatK (ps.take k)).length = k * 5 := by rw [flatK_len, List.length_take]; omega
  have h5 : (cndL ps[k]).length = 5 := rfl
  rw [e2, List.getElem?_append_right (by omega), hl, show k * 5 + j - k * 5 = j by omega, List.getElem?_append_left (by omega)]
theorem rdQ_own {w : World} {base : Nat} {v : Value} {zs : List Cnd} (h : w.ownsRow base 62 5 v zs.length (flatK zs)) (hl : zs.length ≤ 1099511627776) : RdQ w base w.heap.size v zs := by
  rcases h.2 with ⟨rfl, h0⟩ | ⟨g, cap, cur, rfl, hb, hh, hn, hc, hs, ht⟩
  · obtain rfl := List.eq_nil_of_length_eq_zero h0
    exact ⟨none, 0, rfl, by simp, fun k e hk => by simp at hk⟩
  · have hg : g < w.heap.size := by
      rcases Nat.lt_or_ge g w.heap.size with h1 | h1
      · exact h1
      · rw [Array.getElem?_eq_none h1] at hh; cases hh
    have he : ∀ i u, (flatK zs)[i]? = some u → w.cell? ⟨g, i, none⟩ = some u := fun i u hu => by
      rw [cell_of_row w g i cur _ _ hh, ← Array.getElem?_toList]
      rw [← ht, List.getElem?_take] at hu
      split at hu
      · exact hu
      · cases hu
    refine ⟨some ⟨g, 0, none⟩, cap, rfl, hl, fun k z hk => ⟨⟨g, 0, none⟩, rfl, hb, hg, ?_⟩⟩
    rw [addX]
    have G := fun j hj u hu => he (k * 5 + j) u ((flatK_get zs k z hk j hj).trans hu)
    refine ⟨G 0 (by decide) _ rfl, ?_, ?_, ?_, ?_⟩
    · show w.cell? ⟨g, 0 + k * 5 + 1, none⟩ = _
      rw [Nat.zero_add]; exact G 1 (by decide) _ rfl
    · show w.cell? ⟨g, 0 + k * 5 + 2, none⟩ = _
      rw [Nat.zero_add]; exact G 2 (by decide) _ rfl
    · show w.cell? ⟨g, 0 + k * 5 + 3, none⟩ = _
      rw [Nat.zero_add]; exact G 3 (by decide) _ rfl
    · show w.cell? ⟨g, 0 + k * 5 + 4, none⟩ = _
      rw [Nat.zero_add]; exact G 4 (by decide) _ rfl
theorem own_two2K (W : World) (g : Nat) (hg : W.heap.size = g) (v : Value) : Own (W.alloc (.cells #[v] 59)) g 59 #[v] := by
  subst hg
  exact Own.new W _ _
theorem filterMap_le (zs : List Ex) : (zs.filterMap condE).length ≤ zs.length := List.length_filterMap_le _ _
set_option maxRecDepth 100000 in
set_option maxHeartbeats 6400000 in
theorem pConds_any (d : Nat) (e : Ex) (u : Value) (w : World) (L : Nat) (h : RdE w L w.heap.size d u e.args) (hl : (conjE d e).length ≤ 1099511627776) :
    Calls Try.prog 32 #[exV e u] w fun e' w' => ∃ v, e' = .returned v ∧ RdQ w' w.heap.size w'.heap.size v ((conjE d e).filterMap condE) ∧ Below w.heap.size w w' := by
  obtain ⟨A, c, rfl, _⟩ := h.slice
  have b1 := bel_mk w (.cells (exA e (.slice A e.args.length c)) 26)
  have b2 := bel_mk (w.alloc (.cells (exA e (.slice A e.args.length c)) 26)) (.cells #[.slice none 0 0] 59)
  have HB := Lib.hid (b1.trans (b2.mono b1.size))
  have HE := Lib.hid ((Own.new w 26 (exA e (.slice A e.args.length c))).alloc (.cells #[.slice none 0 0] 59))
  have HG := Lib.hid (own_two2K (w.alloc (.cells (exA e (.slice A e.args.length c)) 26)) (w.heap.size + 1) (by rw [World.size_alloc]) (.slice none 0 0))
  have HV := Lib.hid (pVisP_any 62 #[.pointer (some ⟨w.heap.size + 1, 0, none⟩)]
    (fun zs W => RowN W (w.heap.size + 1) (w.heap.size + 2) (zs.filterMap condE) ∧ Below (w.heap.size + 1) ((w.alloc (.cells (exA e (.slice A e.args.length c)) 26)).alloc (.cells #[.slice none 0 0] 59)) W)
    ((w.alloc (.cells (exA e (.slice A e.args.length c)) 26)).alloc (.cells #[.slice none 0 0] 59)) (w.heap.size + 1) L d (conjE d e) (by simp) (fun _ _ => rfl) (fun zs W h => h.2)
    (fun zs W W' ⟨hr, hb⟩ hb2 => ⟨hr.below hb2, hb.trans (hb2.mono (by have := hb.size; simp at this; omega))⟩)
    (fun zs c2 u2 d2 W hd ⟨hR, hb⟩ ⟨t, hT⟩ hr => by
      have hs := hb.size
      have hz2 : (w.alloc (.cells (exA e (.slice A e.args.length c)) 26)).heap.size + 1 ≤ W.heap.size := by have := hs; simp only [World.size_alloc] at this ⊢; exact this
      have hlz : (zs.filterMap condE).length ≤ 1099511627776 := by have := congrArg List.length hT; simp only [List.length_append] at this; have := filterMap_le zs; omega
      refine (pCd1_any d2 c2 u2 (w.heap.size + 1) (w.heap.size + 2) L (zs.filterMap condE) W ((hr.below hb).more (by simp only [World.size_alloc] at hz2; omega) (Nat.le_refl _)) hR (by omega) (by simp only [World.size_alloc] at hz2; omega) hlz).mono ?_
      rintro e' w' ⟨h1, h2, h3⟩
      refine ⟨h1, ?_, hb.trans h3⟩
      rw [List.filterMap_append, show [c2].filterMap condE = (condE c2).toList from by cases hc : condE c2 <;> simp [hc]]
      exact h2)
    d (Nat.le_refl _) e (.slice A e.args.length c) [] _ ⟨⟨.slice none 0 0, HG.out, World.ownsRow_nil _ _ _ 5⟩, Below.refl _ _⟩ (by have h3 := (h.step b1 (Nat.le_refl _)).below b2; simp only [World.size_alloc] at h3; exact h3) ⟨[], by simp⟩)
  have HL := Lib.hid hl
  clear b1 b2 h hl
  rw [List.nil_append] at HV
  generalize hzs : conjE d e = zs at *
  clear hzs
  unfold exV exA at *
  have e0 := HE.out.cell 0
  have e1 := HE.out.cell 1
  have e2 := HE.out.cell 2
  have e3 := HE.out.cell 3
  have e4 := HE.out.cell 4
  have e5 := HE.out.cell 5
  have e6 := HE.out.cell 6
  go_enter Try.func32, Try.ntmps32
  go_wp2_with fail
  with_reducible refine HV.out.mono ?_
  rintro e' w2 ⟨rfl, ⟨v2, hg2, hr2⟩, hb2⟩
  have c0 := hg2.cell 0
  have HB2 := Lib.hid (HB.out.trans (hb2.mono (by omega)))
  have HT := Lib.hid (rdQ_own hr2 (by have := HL.out; have := filterMap_le zs; omega))
  clear e0 e1 e2 e3 e4 e5 e6 HV HE HG HB hb2 hr2
  go_wp2
  go_ret
  exact ⟨v2, rfl, HT.out.more (Nat.le_refl _) (by omega), HB2.out⟩
end Go.Proofs.Ythnmcpfmljibeaa
