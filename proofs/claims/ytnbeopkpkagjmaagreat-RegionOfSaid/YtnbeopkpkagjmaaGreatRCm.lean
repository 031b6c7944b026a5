import Derived.Test.YtnbeopkpkagjmaaGreatRSs
import Derived.Test.YtnbeopkpkagjmaaGreatRH
import Derived.WalkKit
import Derived.WalkSpells
import Derived.WalkLawsBesides
import Derived.Deep.QuietTactic
import Derived.BigQuiet
import Derived.Handy
import Derived.Lib.Hide
/-
  What combine keeps between two visits: its boxes, the result's row, the last slice. Conditions: none.
-/
namespace Go.Proofs.YtnbeopkpkagjmaaGreat
set_option maxRecDepth 100000
set_option linter.unusedVariables false
set_option linter.unusedSimpArgs false
open Go.RowKit

theorem KeepV.of_below {N : Nat} {P : Nat → Prop} {w w' : World} (h : Below w.heap.size w w') : KeepV N P w w' := ⟨h.os, h.tape, h.output, h.size, fun g hg _ _ => h.block g hg⟩
theorem KeepV.below {N : Nat} {P : Nat → Prop} {w w1 w2 : World} (h : KeepV N P w w1) (hb : Below w1.heap.size w1 w2) : KeepV N P w w2 :=
  ⟨hb.os.trans h.os, hb.tape.trans h.tape, hb.output.trans h.output, Nat.le_trans h.size hb.size, fun g hg hn hp => (hb.block g (Nat.lt_of_lt_of_le hg h.size)).trans (h.block g hg hn hp)⟩
theorem KeepV.grown {N : Nat} {P : Nat → Prop} {w w1 w2 : World} (h : KeepV N P w w1) {row : Option Nat} (hb : w1.grownBy w2 row) (hr : ∀ g, row = some g → P g ∨ w.heap.size ≤ g) : KeepV N P w w2 :=
  ⟨hb.os.trans h.os, hb.tape.trans h.tape, hb.output.trans h.output, Nat.le_trans h.size hb.size, fun g hg hn hp => (hb.block g (Nat.lt_of_lt_of_le hg h.size) (fun e => by
    rcases hr g e.symm with h1 | h1
    · exact hp h1
    · omega)).trans (h.block g hg hn hp)⟩
theorem KeepV.setCell {N : Nat} {P : Nat → Prop} {w w1 : World} (h : KeepV N P w w1) {p : Addr} (hn : p.block < N) (u : Value) : KeepV N P w (w1.setCell p u) :=
  ⟨h.os, h.tape, h.output, by rw [World.size_setCell]; exact h.size, fun g hg hN hp => (Below.heap_setCell w1 p u g (by omega)).trans (h.block g hg hN hp)⟩
theorem below_grown {B : Nat} {w w' : World} {row : Option Nat} (h : w.grownBy w' row) (hr : ∀ g, row = some g → B ≤ g) (hB : B ≤ w.heap.size) : Below B w w' :=
  ⟨h.os, h.tape, h.output, h.size, fun g hg => h.block g (by omega) (fun e => by have := hr g e.symm; omega)⟩
theorem Below.setC {B : Nat} {w w' : World} (h : Below B w w') {p : Addr} (hp : B ≤ p.block) (u : Value) : Below B w (w'.setCell p u) := h.setCell hp u
structure CmI (w0 : World) (G gop gr gl N : Nat) (f : Bool → Bool → Bool) (zs : List St2) (P : Nat → Prop) (W : World) (v lv : Value) (res : List Rc) (last : List (Int × Int)) (Ll Ul : Nat) : Prop where
  op : Own W gop 42 #[.func (.func G) #[] #[]]
  rs : Own W gr 22 #[v]
  la : Own W gl 27 #[lv]
  row : W.ownsRow N 35 4 v res.length (flatR res)
  rd : RdP W Ll Ul lv last
  lN : N ≤ Ll
  uW : Ul ≤ W.heap.size
  pr : ∀ g, v.ownBlock = some g → P g
  pl : ∀ g, Ll ≤ g → g < Ul → P g
  pw : ∀ g, P g → g < W.heap.size
  ap : ∀ g, v.ownBlock = some g → g < Ll ∨ Ul ≤ g
  bw : Below w0.heap.size w0 W
  fo : (zs.map (toSt f)).foldl vstep ([], []) = (res, last)
  le : last.length ≤ res.length
  nr : res.length ≤ zs.length * 48000
  nl : last.length ≤ 48000
/-- The boxes' blocks. -/
structure Bxs (w0 : World) (gop gr gl N : Nat) : Prop where
  o0 : w0.heap.size ≤ gop
  r0 : w0.heap.size ≤ gr
  l0 : w0.heap.size ≤ gl
  oN : gop < N
  rN : gr < N
  lN : gl < N
  orr : gop ≠ gr
  ol : gop ≠ gl
  rl : gr ≠ gl
def RCm (w0 : World) (G gop gr gl N : Nat) (f : Bool → Bool → Bool) (zs : List St2) (P : Nat → Prop) (W : World) : Prop := ∃ v lv res last Ll Ul, CmI w0 G gop gr gl N f zs P W v lv res last Ll Ul
theorem KeepS.own {N : Nat} {P : Nat → Prop} {w w' : World} (h : KeepS N P w w') {g : Nat} {t : TypeId} {cs : Array Value} (o : Own w g t cs) (hn : g < N ∨ P g) : Own w' g t cs := by
  have hlt := o.lt
  unfold Own at o ⊢
  rw [h.block g hlt hn]; exact o
theorem RdP.keeps {N : Nat} {P : Nat → Prop} {w w' : World} {L B : Nat} {v : Value} {l : List (Int × Int)} (hr : RdP w L B v l) (h : KeepS N P w w') (hB : B ≤ w.heap.size) (hp : ∀ g, L ≤ g → g < B → P g) : RdP w' L B v l := by
  obtain ⟨A, c, hv, hl, hcc, hc⟩ := hr
  refine ⟨A, c, hv, hl, hcc, fun k n hk => ?_⟩
  obtain ⟨ad, h1, h0, h2, h3, h4⟩ := hc k n hk
  have g : ∀ a : Addr, a.block = ad.block → w'.cell? a = w.cell? a := fun a ha => World.cell?_of_block (by rw [ha]; exact h.block _ (by omega) (.inr (hp _ h0 h2)))
  exact ⟨ad, h1, h0, h2, (g _ (add_block _ _)).trans h3, (g ⟨(ad.add (k * 2)).block, (ad.add (k * 2)).off + 1, none⟩ (add_block _ _)).trans h4⟩
theorem CmI.keeps {w0 : World} {G gop gr gl N : Nat} {f : Bool → Bool → Bool} {zs : List St2} {P : Nat → Prop} {W W' : World} {v lv : Value} {res : List Rc} {last : List (Int × Int)} {Ll Ul : Nat} (h : CmI w0 G gop gr gl N f zs P W v lv res last Ll Ul) (hb : Bxs w0 gop gr gl N) (k : KeepS N P W W') : CmI w0 G gop gr gl N f zs P W' v lv res last Ll Ul := by
  refine ⟨k.own h.op (.inl hb.oN), k.own h.rs (.inl hb.rN), k.own h.la (.inl hb.lN), ?_, h.rd.keeps k h.uW h.pl, h.lN, Nat.le_trans h.uW k.size, h.pr, h.pl, fun g hg => Nat.lt_of_lt_of_le (h.pw g hg) k.size, h.ap, ?_, h.fo, h.le, h.nr, h.nl⟩
  · refine ⟨h.row.1, ?_⟩
    rcases h.row.2 with h0 | ⟨g, cap, cur, rfl, hb', hh, rest⟩
    · exact .inl h0
    · refine .inr ⟨g, cap, cur, rfl, hb', ?_, rest⟩
      rw [k.block g (Array.getElem?_eq_some_iff.1 hh).1 (.inr (h.pr g rfl))]
      exact hh
  · have h1 := h.bw
    have hz := h1.size
    have := hb.o0
    have := hb.oN
    exact ⟨k.os.trans h1.os, k.tape.trans h1.tape, k.output.trans h1.output, Nat.le_trans hz k.size, fun g hg => (k.block g (by omega) (.inl (by omega))).trans (h1.block g hg)⟩
theorem vstep_len (z : List Rc × List (Int × Int)) (s : St) (h : z.2.length ≤ z.1.length) : (vstep z s).2.length ≤ (vstep z s).1.length ∧ (vstep z s).1.length ≤ z.1.length + s.2.length ∧ (vstep z s).2 = s.2 := by
  unfold vstep
  split
  · rename_i he
    refine ⟨?_, ?_, rfl⟩
    · simp only [List.length_append, List.length_take, List.length_map, List.length_drop]; rw [← he] at h; omega
    · simp only [List.length_append, List.length_take, List.length_map, List.length_drop]; omega
  · refine ⟨?_, ?_, rfl⟩
    · simp only [List.length_append, List.length_map]; omega
    · simp only [List.length_append, List.length_map]; omega
/-- The next state, behind a visit. -/
theorem CmI.next {w0 : World} {G gop gr gl N : Nat} {f : Bool → Bool → Bool} {zs : List St2} {P P2 : Nat → Prop} {W W' : World} {v lv v' lv' : Value} {res : List Rc} {last : List (Int × Int)} {Ll Ul L2 U2 : Nat} (h : CmI w0 G gop gr gl N f zs P W v lv res last Ll Ul) (z : St2)
    (hop : Own W' gop 42 #[.func (.func G) #[] #[]]) (hrs : Own W' gr 22 #[v']) (hla : Own W' gl 27 #[lv']) {res' : List Rc} (hres : (vstep (res, last) (toSt f z)).1 = res') (hrow : W'.ownsRow N 35 4 v' res'.length (flatR res'))
    (hrd : RdP W' L2 U2 lv' (toSt f z).2) (hlN : N ≤ L2) (huW : U2 ≤ W'.heap.size) (hpr : ∀ g, v'.ownBlock = some g → P2 g) (hpl : ∀ g, L2 ≤ g → g < U2 → P2 g) (hpw : ∀ g, P2 g → g < W'.heap.size) (hap : ∀ g, v'.ownBlock = some g → g < L2 ∨ U2 ≤ g) (hbw : Below w0.heap.size w0 W')
    (hx : z.2.1.length ≤ 12000) (hy : z.2.2.length ≤ 12000) : CmI w0 G gop gr gl N f (zs ++ [z]) P2 W' v' lv' res' (toSt f z).2 L2 U2 := by
  obtain ⟨e1, e2, e3⟩ := vstep_len (res, last) (toSt f z) h.le
  rw [hres] at e1 e2
  rw [e3] at e1
  have hc : (toSt f z).2.length ≤ 48000 := by have := comb_len f z.2.1 z.2.2; show (comb f z.2.1 z.2.2).length ≤ _; omega
  refine ⟨hop, hrs, hla, hrow, hrd, hlN, huW, hpr, hpl, hpw, hap, hbw, ?_, e1, ?_, hc⟩
  · rw [List.map_append, List.foldl_append, h.fo]
    show vstep (res, last) (toSt f z) = _
    exact Prod.ext hres e3
  · have := h.nr
    rw [List.length_append, List.length_singleton]
    have e4 : res'.length ≤ res.length + (toSt f z).2.length := e2
    omega
end Go.Proofs.YtnbeopkpkagjmaaGreat
