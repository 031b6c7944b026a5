import Derived.Test.YthnmcpfmljibeaaGreatPV
import Derived.Laws.OwnMore
import Derived.Deep.AppendLies
import Derived.WalkKit
import Derived.WalkSpells
import Derived.WalkLawsBesides
import Derived.Deep.QuietTactic
import Derived.BigQuiet
import Derived.Handy
import Derived.Lib.Hide
import Derived.Deep.DeepCutAuto
/-
  Rows of pairs. Conditions: lengths.
-/
namespace Go.Proofs.YthnmcpfmljibeaaGreat
set_option maxRecDepth 100000
set_option linter.unusedVariables false
set_option linter.unusedSimpArgs false
open Go.RowKit

abbrev Pq := Int × Int
def prqL (p : Pq) : List Value := [.int .i64 p.1, .int .i64 p.2]
def flatQ : List Pq → List Value
  | [] => []
  | p :: t => prqL p ++ flatQ t
theorem flatQ_append : ∀ a b : List Pq, flatQ (a ++ b) = flatQ a ++ flatQ b
  | [], b => rfl
  | p :: t, b => by
    show prqL p ++ flatQ (t ++ b) = (prqL p ++ flatQ t) ++ flatQ b
    rw [flatQ_append t b, List.append_assoc]
theorem flatQ_len : ∀ a : List Pq, (flatQ a).length = a.length * 2
  | [] => rfl
  | p :: t => by
    show (prqL p ++ flatQ t).length = _
    rw [List.length_append, flatQ_len t, List.length_cons]
    show 2 + _ = _
    omega
theorem infoQ : (Tryz.prog.info? 46).map (fun i => (i.zero, i.size, i.bytes)) = some (some (.agg #[.int .i64 0, .int .i64 0]), 2, 16) := by kernel_rfl
theorem append_q1 {ops : Array Oper} {rest : List Oper} {o : Oper} {a : Act} {Q : Exit → Act → World → Prop} (W : World) (hgd : o.guard = none) (s x : Operand)
    (ho : o.op = .call { callee := .builtin .append, args := #[s, x], argTypes := #[43, 43] }) (base : Nat) (v : Value) (l : List Pq) (hs : a.eval s = v)
    (hown : W.ownsRow base 46 2 v l.length (flatQ l)) (g c : Nat) (p : Pq) (hx : a.eval x = .slice (some ⟨g, 0, none⟩) 1 c)
    (hnew : ∀ j u, (prqL p)[j]? = some u → W.cell? ((⟨g, 0, none⟩ : Addr).add j) = some u) (hl : l.length ≤ 1099511627776) (hbase : base ≤ W.heap.size)
    (h : ∀ g' cap w', w'.ownsRow base 46 2 (.slice (some ⟨g', 0, none⟩) (l.length + 1) cap) (l ++ [p]).length (flatQ (l ++ [p])) → W.grownBy w' v.ownBlock → (v.ownBlock = some g' ∨ g' = W.heap.size) → wpList Tryz.prog ops Q rest (a.put o.dst (.slice (some ⟨g', 0, none⟩) (l.length + 1) cap)) w') :
    wpList Tryz.prog ops Q (o :: rest) a W := by
  obtain ⟨i0, hi, hz0, hz1, hz2⟩ := info_partsB infoQ
  refine wpList_append_lies W hgd s x 43 ho base 46 i0 (.agg #[.int .i64 0, .int .i64 0]) 2 16 Tryz.underlying43 hi hz0 hz1 hz2 rfl (by decide) v l.length (flatQ l) hs hown ⟨g, 0, none⟩ 1 c (prqL p) hx rfl hnew (fun u hu => ?_) (by decide) (by unfold maxLen; omega) (by omega) hbase W.heap.size rfl ?_
  · simp only [prqL, List.mem_cons, List.not_mem_nil, or_false] at hu
    rcases hu with rfl | rfl <;> rfl
  · intro g' cap w' h1 h2 h3 h4
    refine h g' cap w' ?_ h2 h3
    rw [flatQ_append, List.length_append]
    show w'.ownsRow base _ 2 _ (l.length + 1) (flatQ l ++ (prqL p ++ []))
    rw [List.append_nil]
    exact h1
theorem ownQ_far {w : World} {base n : Nat} {v : Value} {xs : List Value} (h : w.ownsRow base 46 2 v n xs) {p : Addr} (hp : p.block < base) (u : Value) : (w.setCell p u).ownsRow base 46 2 v n xs := by
  refine ⟨h.1, ?_⟩
  rcases h.2 with h0 | ⟨g, cap, cur, rfl, hb, hh, hr⟩
  · exact .inl h0
  · exact .inr ⟨g, cap, cur, rfl, hb, (Below.heap_setCell w p u g (by omega)).trans hh, hr⟩
theorem ownQ_shape {w : World} {base n : Nat} {v : Value} {xs : List Value} (h : w.ownsRow base 46 2 v n xs) : ∃ Av cv, v = .slice Av n cv := by
  rcases h.2 with ⟨rfl, rfl⟩ | ⟨g, cap, cur, rfl, _⟩
  · exact ⟨_, _, rfl⟩
  · exact ⟨_, _, rfl⟩
theorem lit_q (W : World) (p : Pq) : ∀ j u, (prqL p)[j]? = some u → (W.alloc (.cells #[.int .i64 p.1, .int .i64 p.2] 46)).cell? ((⟨W.heap.size, 0, none⟩ : Addr).add j) = some u := fun j u hu => by
  rw [addX, (Own.new W 46 _).cell j]
  rw [← hu]
  exact List.getElem?_toArray ..
/-- The slice v holds the pairs zs. -/
def RdU (w : World) (L B : Nat) (v : Value) (zs : List Pq) : Prop :=
  ∃ A c, v = .slice A zs.length c ∧ zs.length ≤ 1099511627776 ∧ ∀ (k : Nat) (z : Pq), zs[k]? = some z → ∃ ad : Addr, A = some ad ∧ L ≤ ad.block ∧ ad.block < B ∧
    w.cell? (ad.add (k * 2)) = some (.int .i64 z.1) ∧ w.cell? ⟨ad.block, ad.off + k * 2 + 1, none⟩ = some (.int .i64 z.2)
theorem RdU.below {w w' : World} {L B : Nat} {v : Value} {zs : List Pq} (h : RdU w L B v zs) (hb : Below B w w') : RdU w' L B v zs := by
  obtain ⟨A, c, h1, h2, h3⟩ := h
  refine ⟨A, c, h1, h2, fun k z hk => ?_⟩
  obtain ⟨ad, g1, g2, g3, c0, c1⟩ := h3 k z hk
  exact ⟨ad, g1, g2, g3, (hb.cell (by rw [add_blk]; exact g3)).trans c0, (hb.cell (p := ⟨ad.block, _, none⟩) g3).trans c1⟩
theorem RdU.more {w : World} {L L' B B' : Nat} {v : Value} {zs : List Pq} (h : RdU w L B v zs) (hB : B ≤ B') (hL : L' ≤ L) : RdU w L' B' v zs := by
  obtain ⟨A, c, h1, h2, h3⟩ := h
  refine ⟨A, c, h1, h2, fun k z hk => ?_⟩
  obtain ⟨ad, g1, g2, g3, g4⟩ := h3 k z hk
  exact ⟨ad, g1, by omega, by omega, g4⟩
theorem RdU.step {w w' : World} {L B : Nat} {v : Value} {zs : List Pq} (h : RdU w L B v zs) (hb : Below w.heap.size w w') (hB : B ≤ w.heap.size) : RdU w' L w'.heap.size v zs := ((h.more hB (Nat.le_refl _)).below hb).more hb.size (Nat.le_refl _)
theorem flatQ_get (ps : List Pq) (k : Nat) (p : Pq) (h : ps[k]? = some p) (j : Nat) (hj : j < 2) : (flatQ ps)[k * 2 + j]? = (prqL p)[j]? := by
  obtain ⟨hk, rfl⟩ := List.getElem?_eq_some_iff.1 h
  have e : ps = ps.take k ++ ps[k] :: ps.drop (k + 1) := by rw [List.getElem_cons_drop, List.take_append_drop]
  have e2 : flatQ ps = flatQ (ps.take k) ++ (prqL ps[k] ++ flatQ (ps.drop (k + 1))) := by
    conv => lhs; rw [e]
    rw [flatQ_append]
    rfl
  have hl : (flatQ (ps.take k)).length = k * 2 := by rw [flatQ_len, List.length_take]; omega
  have h5 : (prqL ps[k]).length = 2 := rfl
  rw [e2, List.getElem?_append_right (by omega), hl, show k * 2 + j - k * 2 = j by omega, List.getElem?_append_left (by omega)]
theorem rdU_own {w : World} {base : Nat} {v : Value} {zs : List Pq} (h : w.ownsRow base 46 2 v zs.length (flatQ zs)) (hl : zs.length ≤ 1099511627776) : RdU w base w.heap.size v zs := by
  rcases h.2 with ⟨rfl, h0⟩ | ⟨g, cap, cur, rfl, hb, hh, hn, hc, hs, ht⟩
  · obtain rfl := List.eq_nil_of_length_eq_zero h0
    exact ⟨none, 0, rfl, by simp, fun k e hk => by simp at hk⟩
  · have hg : g < w.heap.size := by
      rcases Nat.lt_or_ge g w.heap.size with h1 | h1
      · exact h1
      · rw [Array.getElem?_eq_none h1] at hh; cases hh
    have he : ∀ i u, (flatQ zs)[i]? = some u → w.cell? ⟨g, i, none⟩ = some u := fun i u hu => by
      rw [cell_of_row w g i cur _ _ hh, ← Array.getElem?_toList]
      rw [← ht, List.getElem?_take] at hu
      split at hu
      · exact hu
      · cases hu
    refine ⟨some ⟨g, 0, none⟩, cap, rfl, hl, fun k z hk => ⟨⟨g, 0, none⟩, rfl, hb, hg, ?_⟩⟩
    rw [addX]
    have G := fun j hj u hu => he (k * 2 + j) u ((flatQ_get zs k z hk j hj).trans hu)
    refine ⟨G 0 (by decide) _ rfl, ?_⟩
    show w.cell? ⟨g, 0 + k * 2 + 1, none⟩ = _
    rw [Nat.zero_add]; exact G 1 (by decide) _ rfl
theorem own_two2Q (W : World) (g : Nat) (hg : W.heap.size = g) (v : Value) : Own (W.alloc (.cells #[v] 43)) g 43 #[v] := by
  subst hg
  exact Own.new W _ _
end Go.Proofs.YthnmcpfmljibeaaGreat
/-
  The closure of Equations; Equations. Conditions: lengths.
-/
namespace Go.Proofs.YthnmcpfmljibeaaGreat
set_option maxRecDepth 100000
set_option linter.unusedVariables false
set_option linter.unusedSimpArgs false
open Go.RowKit

/-- The list of pairs that the closure keeps in the box g. -/
def RowU (w : World) (g base : Nat) (zs : List Pq) : Prop := ∃ v, Own w g 43 #[v] ∧ w.ownsRow base 46 2 v zs.length (flatQ zs)
theorem RowU.below {W W' : World} {g base : Nat} {zs : List Pq} (h : RowU W g base zs) (hb : Below W.heap.size W W') : RowU W' g base zs := by
  obtain ⟨v, h1, h2⟩ := h
  exact ⟨v, h1.below hb h1.lt, own_below h2 hb⟩
theorem eqn_op (split : Int) (e : Ex) (h : e.op ≠ 7) : eqnE split e = none := by
  unfold eqnE
  split
  · rw [if_neg (fun h2 => h h2.1)]
  · rfl
theorem eqn_len (split : Int) (e : Ex) (h : e.args.length ≠ 2) : eqnE split e = none := by
  unfold eqnE
  split
  · rename_i h2; rw [h2] at h; exact absurd rfl h
  · rfl
theorem eqn_two (split op n : Int) (v : Vl) (nm : ByteArray) (a b : Ex) : eqnE split ⟨op, n, v, nm, [a, b]⟩ = if op = 7 ∧ a.op = 2 ∧ b.op = 2 ∧ min a.n b.n < split ∧ split ≤ max a.n b.n then some (min a.n b.n, max a.n b.n) else none := rfl
set_option maxRecDepth 100000 in
set_option maxHeartbeats 6400000 in
theorem pEq1_skip (split op n k1 k2 : Int) (s nm : ByteArray) (A : Option Addr) (l c : Nat) (gs g base : Nat) (zs : List Pq) (W : World) (h : op ≠ 7 ∨ l ≠ 2) (hs : Own W gs 3 #[.int .i64 split]) (hR : RowU W g base zs) :
    Calls Tryz.prog 63 #[.agg #[.int .i64 op, .int .i64 n, .int .i64 k1, .int .i64 k2, .string s, .string nm, .slice A l c], .pointer (some ⟨gs, 0, none⟩), .pointer (some ⟨g, 0, none⟩)] W fun e' w' => e' = .returned (.tuple #[]) ∧ RowU w' g base zs ∧ Below g W w' := by
  have b1 := bel_mk W (.cells #[.int .i64 op, .int .i64 n, .int .i64 k1, .int .i64 k2, .string s, .string nm, .slice A l c] 26)
  have HR := Lib.hid (hR.below b1)
  have HB := Lib.hid (b1.mono (show g ≤ _ from by obtain ⟨v, h1, _⟩ := hR; exact Nat.le_of_lt h1.lt))
  clear b1 hR
  by_cases h7 : op = 7
  · subst h7
    have hl5 : l ≠ 2 := by rcases h with h | h; exact absurd rfl h; exact h
    have hl4 : ¬ (l : Int) = 2 := by omega
    have hl3 : ((l : Int) == 2) = false := by rw [beq_eq_false_iff_ne]; exact hl4
    clear h
    go_enter Tryz.func63, Tryz.ntmps63
    go_wp2
    (try simp only [Exit.inBlock, Exit.then]); refine bodyPost_ret (results_none rfl _ _ _) rfl ?_
    exact ⟨rfl, HR.out, HB.out⟩
  · have h7b : (op == 7) = false := by rw [beq_eq_false_iff_ne]; exact h7
    clear h
    go_enter Tryz.func63, Tryz.ntmps63
    go_wp2
    (try simp only [Exit.inBlock, Exit.then]); refine bodyPost_ret (results_none rfl _ _ _) rfl ?_
    exact ⟨rfl, HR.out, HB.out⟩
set_option maxRecDepth 100000 in
set_option maxHeartbeats 6400000 in
theorem pEq1_two (split n k1 k2 : Int) (s nm : ByteArray) (a b : Ex) (A : Option Addr) (c : Nat) (gs g base L d : Nat) (zs : List Pq) (W : World) (hu : RdE W L W.heap.size (d + 1) (.slice A 2 c) [a, b]) (hs : Own W gs 3 #[.int .i64 split]) (hR : RowU W g base zs) (hgb : g < base) (hbz : base ≤ W.heap.size) (hl : zs.length ≤ 1099511627776) :
    Calls Tryz.prog 63 #[.agg #[.int .i64 7, .int .i64 n, .int .i64 k1, .int .i64 k2, .string s, .string nm, .slice A 2 c], .pointer (some ⟨gs, 0, none⟩), .pointer (some ⟨g, 0, none⟩)] W fun e' w' => e' = .returned (.tuple #[]) ∧ RowU w' g base (zs ++ (eqnE split ⟨7, n, (k1, k2, s), nm, [a, b]⟩).toList) ∧ Below g W w' := by
  obtain ⟨A', c', hv', _, hc⟩ := hu
  obtain ⟨ad, ua, rfl, _, hab, hxa, hra⟩ := hc 0 a rfl
  obtain ⟨ad2, ub, hA2, _, _, hxb, hrb⟩ := hc 1 b rfl
  injection hv' with hv1 hv2 hv3
  subst hv1 hv3
  injection hA2 with hA2
  subst hA2
  obtain ⟨Aa, ca, rfl, _⟩ := hra.slice
  obtain ⟨Ab, cb, rfl, _⟩ := hrb.slice
  rw [show (0 : Nat) * 7 = 0 from rfl, show ad.add 0 = ad by unfold Addr.add; simp] at hxa
  rw [show (1 : Nat) * 7 = 7 from rfl, show ad.add 7 = ⟨ad.block, ad.off + 7, none⟩ by unfold Addr.add; simp] at hxb
  obtain ⟨v, hg, hown⟩ := hR
  obtain ⟨Av, cv, rfl⟩ := ownQ_shape hown
  have b1 := bel_mk W (.cells #[.int .i64 7, .int .i64 n, .int .i64 k1, .int .i64 k2, .string s, .string nm, .slice (some ad) 2 c] 26)
  have hgl := hg.lt
  have HB1 := Lib.hid b1
  have HS1 := Lib.hid (hs.below b1 hs.lt)
  have HG1 := Lib.hid (hg.below b1 hg.lt)
  have HR1 := Lib.hid (own_below hown b1)
  have HGE := Lib.hid (show ∀ b, (Value.slice Av zs.length cv).ownBlock = some b → base ≤ b from fun b hb => (hown.lt b hb).1)
  obtain ⟨x0, x1, x2, x3, x4, x5, x6⟩ := hxa.below b1 hab
  obtain ⟨y0, y1, y2, y3, y4, y5, y6⟩ := hxb.below b1 hab
  have habw : ad.block < W.heap.size := hab
  have hs0 := HS1.out.cell 0
  have HE1 := Lib.hid (Own.new W 26 #[.int .i64 7, .int .i64 n, .int .i64 k1, .int .i64 k2, .string s, .string nm, .slice (some ad) 2 c])
  have e6 := HE1.out.cell 6
  have HRU := Lib.hid (show RowU (W.alloc (.cells #[.int .i64 7, .int .i64 n, .int .i64 k1, .int .i64 k2, .string s, .string nm, .slice (some ad) 2 c] 26)) g base zs from ⟨_, HG1.out, HR1.out⟩)
  clear hxa hxb hra hrb hc hg hown b1 hs
  rw [eqn_two]
  by_cases ha : a.op = 2
  · by_cases hb : b.op = 2
    · have HP := Lib.hid (show True from trivial)
      rw [ha] at x0
      rw [hb] at y0
      generalize a.n = p at *
      generalize b.n = q at *
      by_cases h1 : min p q < split
      · by_cases h2 : split ≤ max p q
        · rw [if_pos ⟨rfl, ha, hb, h1, h2⟩]
          simp only [Option.toList_some]
          generalize hmn : min p q = mn at *
          generalize hmx : max p q = mx at *
          clear x2 x3 x4 x5 x6 y2 y3 y4 y5 y6 ha hb
          go_enter Tryz.func63, Tryz.ntmps63
          go_wp2_with fail
          go_quiet (fail)
          generalize hwd : World.drewN _ _ = wd
          have bd : Below (W.alloc (.cells #[.int .i64 7, .int .i64 n, .int .i64 k1, .int .i64 k2, .string s, .string nm, .slice (some ad) 2 c] 26)).heap.size (W.alloc (.cells #[.int .i64 7, .int .i64 n, .int .i64 k1, .int .i64 k2, .string s, .string nm, .slice (some ad) 2 c] 26)) wd := by rw [← hwd]; exact below_dn (Below.refl _ _) _
          have hzw : W.heap.size < wd.heap.size := by have := bd.size; simp only [World.size_alloc] at this; omega
          have HB2 := Lib.hid (HB1.out.trans (bd.mono HB1.out.size))
          have HG2 := Lib.hid (HG1.out.below bd HG1.out.lt)
          have HR2 := Lib.hid (own_below HR1.out bd)
          have HS2 := Lib.hid (HS1.out.below bd HS1.out.lt)
          clear hwd bd x0 x1 y0 y1 e6 hs0 HRU HG1 HR1 HS1 HE1
          have c0 := HG2.out.cell 0
          have hs0 := HS2.out.cell 0
          have bp := bel_mk wd (.cells #[.int .i64 mn, .int .i64 mx] 46)
          have HB3 := Lib.hid (HB2.out.trans (bp.mono HB2.out.size))
          have HG3 := Lib.hid (HG2.out.below bp HG2.out.lt)
          have HR3 := Lib.hid (own_below HR2.out bp)
          have HS3 := Lib.hid (HS2.out.below bp HS2.out.lt)
          have g0 := HG3.out.cell 0
          have s0 := HS3.out.cell 0
          have bq := bel_mk (wd.alloc (.cells #[.int .i64 mn, .int .i64 mx] 46)) (.cells #[.int .i64 mn, .int .i64 mx] 46)
          have HB4 := Lib.hid (HB3.out.trans (bq.mono HB3.out.size))
          have HG4 := Lib.hid (HG3.out.below bq HG3.out.lt)
          have HR4 := Lib.hid (own_below HR3.out bq)
          clear bp bq
          go_wp2_with (at_builtin; refine append_q1 _ rfl _ _ rfl base _ zs rfl HR4.out (wd.heap.size + 1) 1 (mn, mx) rfl (by have h := lit_q (wd.alloc (.cells #[.int .i64 mn, .int .i64 mx] 46)) (mn, mx); simpa only [World.size_alloc] using h) hl (by have := HB4.out.size; omega) ?_; intro g3 cap3 w3 hr3 hg3 hv3; have hgg := HG4.out.grownX hg3 (fun b hb => by have := HGE.out b hb; omega); have c5 := hgg.cell 0; have k5 := hgg.free 0; have HR5 := Lib.hid hr3; have HG5 := Lib.hid hg3; have HGG := Lib.hid hgg; clear hr3 hg3 hv3 hgg)
          go_end0
          refine ⟨rfl, ⟨_, HGG.out.store 0 _, ?_⟩, (((HB4.out.mono (Nat.le_of_lt hgl)).grown HG5.out (by have := HB4.out.size; omega) (fun b hb => by have := HGE.out b hb; omega)).setCell (p := ⟨g, 0, none⟩) (Nat.le_refl _) _)⟩
          rw [List.length_append]
          have h := ownQ_far HR5.out (p := ⟨g, 0, none⟩) (by show g < base; exact hgb) (.slice (some ⟨g3, 0, none⟩) (zs.length + 1) cap3)
          rw [List.length_append] at h
          exact h
        · rw [if_neg (fun h => h2 h.2.2.2.2)]
          simp only [Option.toList_none, List.append_nil]
          clear x2 x3 x4 x5 x6 y2 y3 y4 y5 y6 ha hb
          go_enter Tryz.func63, Tryz.ntmps63
          go_wp2_with fail
          go_quiet (fail)
          generalize hwd : World.drewN _ _ = wd
          have bd : Below (W.alloc (.cells #[.int .i64 7, .int .i64 n, .int .i64 k1, .int .i64 k2, .string s, .string nm, .slice (some ad) 2 c] 26)).heap.size (W.alloc (.cells #[.int .i64 7, .int .i64 n, .int .i64 k1, .int .i64 k2, .string s, .string nm, .slice (some ad) 2 c] 26)) wd := by rw [← hwd]; exact below_dn (Below.refl _ _) _
          have HB2 := Lib.hid (HB1.out.trans (bd.mono HB1.out.size))
          have HU2 := Lib.hid (HRU.out.below bd)
          have HS2 := Lib.hid (HS1.out.below bd HS1.out.lt)
          clear hwd bd x0 x1 y0 y1 e6 hs0 HRU HG1 HR1 HS1 HE1
          generalize hmn : min p q = mn at *
          generalize hmx : max p q = mx at *
          have bp := bel_mk wd (.cells #[.int .i64 mn, .int .i64 mx] 46)
          have HB3 := Lib.hid (HB2.out.trans (bp.mono HB2.out.size))
          have HU3 := Lib.hid (HU2.out.below bp)
          have HS3 := Lib.hid (HS2.out.below bp HS2.out.lt)
          have s0 := HS3.out.cell 0
          clear bp
          go_wp2
          go_end0
          exact ⟨rfl, HU3.out, HB3.out.mono (Nat.le_of_lt hgl)⟩
      · rw [if_neg (fun h => h1 h.2.2.2.1)]
        simp only [Option.toList_none, List.append_nil]
        clear x2 x3 x4 x5 x6 y2 y3 y4 y5 y6 ha hb
        go_enter Tryz.func63, Tryz.ntmps63
        go_wp2_with fail
        go_quiet (fail)
        generalize hwd : World.drewN _ _ = wd
        have bd : Below (W.alloc (.cells #[.int .i64 7, .int .i64 n, .int .i64 k1, .int .i64 k2, .string s, .string nm, .slice (some ad) 2 c] 26)).heap.size (W.alloc (.cells #[.int .i64 7, .int .i64 n, .int .i64 k1, .int .i64 k2, .string s, .string nm, .slice (some ad) 2 c] 26)) wd := by rw [← hwd]; exact below_dn (Below.refl _ _) _
        have HB2 := Lib.hid (HB1.out.trans (bd.mono HB1.out.size))
        have HU2 := Lib.hid (HRU.out.below bd)
        have HS2 := Lib.hid (HS1.out.below bd HS1.out.lt)
        clear hwd bd x0 x1 y0 y1 e6 hs0 HRU HG1 HR1 HS1 HE1
        generalize hmn : min p q = mn at *
        generalize hmx : max p q = mx at *
        have bp := bel_mk wd (.cells #[.int .i64 mn, .int .i64 mx] 46)
        have HB3 := Lib.hid (HB2.out.trans (bp.mono HB2.out.size))
        have HU3 := Lib.hid (HU2.out.below bp)
        have HS3 := Lib.hid (HS2.out.below bp HS2.out.lt)
        have s0 := HS3.out.cell 0
        clear bp
        go_wp2
        go_end0
        exact ⟨rfl, HU3.out, HB3.out.mono (Nat.le_of_lt hgl)⟩
    · rw [if_neg (fun h => hb h.2.2.1)]
      simp only [Option.toList_none, List.append_nil]
      have hb2 : (b.op == 2) = false := by rw [beq_eq_false_iff_ne]; exact hb
      rw [ha] at x0
      go_enter Tryz.func63, Tryz.ntmps63
      go_wp2
      refine bodyPost_ret (results_none rfl _ _ _) rfl ?_
      exact ⟨rfl, HRU.out, HB1.out.mono (Nat.le_of_lt hgl)⟩
  · rw [if_neg (fun h => ha h.2.1)]
    simp only [Option.toList_none, List.append_nil]
    have ha2 : (a.op == 2) = false := by rw [beq_eq_false_iff_ne]; exact ha
    go_enter Tryz.func63, Tryz.ntmps63
    go_wp2
    refine bodyPost_ret (results_none rfl _ _ _) rfl ?_
    exact ⟨rfl, HRU.out, HB1.out.mono (Nat.le_of_lt hgl)⟩
end Go.Proofs.YthnmcpfmljibeaaGreat
/-
  Equations. Conditions: lengths.
-/
namespace Go.Proofs.YthnmcpfmljibeaaGreat
set_option maxRecDepth 100000
set_option linter.unusedVariables false
set_option linter.unusedSimpArgs false
open Go.RowKit

theorem fmq_le (split : Int) (zs : List Ex) : (zs.filterMap (eqnE split)).length ≤ zs.length := List.length_filterMap_le _ _
set_option maxRecDepth 100000 in
set_option maxHeartbeats 6400000 in
theorem pEq1_any (d : Nat) (split : Int) (e : Ex) (u : Value) (gs g base L : Nat) (zs : List Pq) (W : World) (hu : RdE W L W.heap.size d u e.args) (hs : Own W gs 3 #[.int .i64 split]) (hR : RowU W g base zs) (hgb : g < base) (hbz : base ≤ W.heap.size) (hl : zs.length ≤ 1099511627776) :
    Calls Tryz.prog 63 #[exV e u, .pointer (some ⟨gs, 0, none⟩), .pointer (some ⟨g, 0, none⟩)] W fun e' w' => e' = .returned (.tuple #[]) ∧ RowU w' g base (zs ++ (eqnE split e).toList) ∧ Below g W w' := by
  obtain ⟨A, c, rfl, hel⟩ := hu.slice
  obtain ⟨op, n, ⟨k1, k2, s⟩, nm, es⟩ := e
  unfold exV
  dsimp only at hu hel ⊢
  by_cases h7 : op = 7
  · by_cases h2 : es.length = 2
    · match es, h2, hu with
      | [a, b], _, h =>
        obtain ⟨d', rfl⟩ : ∃ d', d = d' + 1 := ⟨d - 1, by have := h.pos; omega⟩
        subst h7
        exact pEq1_two split n k1 k2 s nm a b A c gs g base L d' zs W h hs hR hgb hbz hl
    · rw [eqn_len split _ h2]
      simp only [Option.toList_none, List.append_nil]
      exact pEq1_skip split op n k1 k2 s nm A es.length c gs g base zs W (.inr h2) hs hR
  · rw [eqn_op split _ h7]
    simp only [Option.toList_none, List.append_nil]
    exact pEq1_skip split op n k1 k2 s nm A es.length c gs g base zs W (.inl h7) hs hR
set_option maxRecDepth 100000 in
set_option maxHeartbeats 6400000 in
theorem pEqns_any (d : Nat) (split : Int) (e : Ex) (u : Value) (w : World) (L : Nat) (h : RdE w L w.heap.size d u e.args) (hl : (conjE d e).length ≤ 1099511627776) :
    Calls Tryz.prog 18 #[exV e u, .int .i64 split] w fun e' w' => ∃ v, e' = .returned v ∧ RdU w' w.heap.size w'.heap.size v ((conjE d e).filterMap (eqnE split)) ∧ Below w.heap.size w w' := by
  obtain ⟨A, c, rfl, _⟩ := h.slice
  have b1 := bel_mk w (.cells (exA e (.slice A e.args.length c)) 26)
  have b2 := bel_mk (w.alloc (.cells (exA e (.slice A e.args.length c)) 26)) (.cells #[.int .i64 split] 3)
  have b3 := bel_mk ((w.alloc (.cells (exA e (.slice A e.args.length c)) 26)).alloc (.cells #[.int .i64 split] 3)) (.cells #[.slice none 0 0] 43)
  have HB := Lib.hid ((b1.trans (b2.mono b1.size)).trans (b3.mono (b1.trans (b2.mono b1.size)).size))
  have HE := Lib.hid (((Own.new w 26 (exA e (.slice A e.args.length c))).alloc (.cells #[.int .i64 split] 3)).alloc (.cells #[.slice none 0 0] 43))
  have HS := Lib.hid ((show Own ((w.alloc (.cells (exA e (.slice A e.args.length c)) 26)).alloc (.cells #[.int .i64 split] 3)) (w.heap.size + 1) 3 #[.int .i64 split] from Va.own_two _).alloc (.cells #[.slice none 0 0] 43))
  have HG := Lib.hid (own_two2Q ((w.alloc (.cells (exA e (.slice A e.args.length c)) 26)).alloc (.cells #[.int .i64 split] 3)) (w.heap.size + 1 + 1) (by rw [World.size_alloc, World.size_alloc]) (.slice none 0 0))
  have HV := Lib.hid (pVisP_any 63 #[.pointer (some ⟨w.heap.size + 1, 0, none⟩), .pointer (some ⟨w.heap.size + 1 + 1, 0, none⟩)]
    (fun zs W => RowU W (w.heap.size + 1 + 1) (w.heap.size + 3) (zs.filterMap (eqnE split)) ∧ Below (w.heap.size + 1 + 1) (((w.alloc (.cells (exA e (.slice A e.args.length c)) 26)).alloc (.cells #[.int .i64 split] 3)).alloc (.cells #[.slice none 0 0] 43)) W)
    (((w.alloc (.cells (exA e (.slice A e.args.length c)) 26)).alloc (.cells #[.int .i64 split] 3)).alloc (.cells #[.slice none 0 0] 43)) (w.heap.size + 1 + 1) L d (conjE d e) (by simp) (fun _ _ => rfl) (fun zs W h => h.2)
    (fun zs W W' ⟨hr, hb⟩ hb2 => ⟨hr.below hb2, hb.trans (hb2.mono (by have := hb.size; simp at this; omega))⟩)
    (fun zs c2 u2 d2 W hd ⟨hR, hb⟩ ⟨t, hT⟩ hr => by
      have hs := hb.size
      have hz2 : w.heap.size + 3 ≤ W.heap.size := by have := hs; simp only [World.size_alloc] at this; omega
      have hlz : (zs.filterMap (eqnE split)).length ≤ 1099511627776 := by have := congrArg List.length hT; simp only [List.length_append] at this; have := fmq_le split zs; omega
      refine (pEq1_any d2 split c2 u2 (w.heap.size + 1) (w.heap.size + 1 + 1) (w.heap.size + 3) L (zs.filterMap (eqnE split)) W ((hr.below hb).more (by omega) (Nat.le_refl _)) (HS.out.below hb (by omega)) hR (by omega) hz2 hlz).mono ?_
      rintro e' w' ⟨h1, h2, h3⟩
      refine ⟨h1, ?_, hb.trans h3⟩
      rw [List.filterMap_append, show [c2].filterMap (eqnE split) = (eqnE split c2).toList from by cases hc : eqnE split c2 <;> simp [hc]]
      exact h2)
    d (Nat.le_refl _) e (.slice A e.args.length c) [] _ ⟨⟨.slice none 0 0, HG.out, World.ownsRow_nil _ _ _ 2⟩, Below.refl _ _⟩ (by have h3 := ((h.step b1 (Nat.le_refl _)).step b2 (Nat.le_refl _)).below b3; simp only [World.size_alloc] at h3; exact h3) ⟨[], by simp⟩)
  have HL := Lib.hid hl
  clear b1 b2 b3 h hl
  rw [List.nil_append] at HV
  generalize hzs : conjE d e = zs at *
  clear hzs
  unfold exV exA at *
  have e0 := HE.out.cell 0
  have e1 := HE.out.cell 1
  have e2 := HE.out.cell 2
  have e3 := HE.out.cell 3
  have e4 := HE.out.cell 4
  have e5 := HE.out.cell 5
  have e6 := HE.out.cell 6
  go_enter Tryz.func18, Tryz.ntmps18
  go_wp2_with fail
  with_reducible refine HV.out.mono ?_
  rintro e' w2 ⟨rfl, ⟨v2, hg2, hr2⟩, hb2⟩
  have c0 := hg2.cell 0
  have HB2 := Lib.hid (HB.out.trans (hb2.mono (by omega)))
  have HT := Lib.hid (rdU_own hr2 (by have := HL.out; have := fmq_le split zs; omega))
  clear e0 e1 e2 e3 e4 e5 e6 HV HE HG HB HS hb2 hr2
  go_wp2
  go_ret
  exact ⟨v2, rfl, HT.out.more (Nat.le_refl _) (by omega), HB2.out⟩
end Go.Proofs.YthnmcpfmljibeaaGreat
