import Derived.Test.YteihjneeiojgaaaProg
import Derived.Test.YteihjneeiojgaaaMA
import Derived.WalkKit
import Derived.WalkSpells
import Derived.WalkLawsBesides
import Derived.Deep.QuietTactic
import Derived.BigQuiet
import Derived.Handy
import Derived.Lib.Hide
/-
  Expressions in memory: trees of a bounded depth. Conditions: none.
-/
namespace Go.Proofs.Yteihjneeiojgaaa
set_option maxRecDepth 100000
set_option linter.unusedVariables false
set_option linter.unusedSimpArgs false
open Go.RowKit

/-- An expression: its operator, its number, its value, its name, its arguments. -/
structure Ex where
  op : Int
  n : Int
  v : Int × Int × ByteArray
  nm : ByteArray
  args : List Ex
/-- The struct that stands for e, its arguments in the slice u. -/
def exV (e : Ex) (u : Value) : Value := .agg #[.int .i64 e.op, .int .i64 e.n, .int .i64 e.v.1, .int .i64 e.v.2.1, .string e.v.2.2, .string e.nm, u]
def exA (e : Ex) (u : Value) : Array Value := #[.int .i64 e.op, .int .i64 e.n, .int .i64 e.v.1, .int .i64 e.v.2.1, .string e.v.2.2, .string e.nm, u]
/-- The seven cells of e from p on. -/
def ExC (w : World) (p : Addr) (e : Ex) (u : Value) : Prop :=
  w.cell? p = some (.int .i64 e.op) ∧ w.cell? ⟨p.block, p.off + 1, none⟩ = some (.int .i64 e.n) ∧ w.cell? ⟨p.block, p.off + 2, none⟩ = some (.int .i64 e.v.1) ∧ w.cell? ⟨p.block, p.off + 3, none⟩ = some (.int .i64 e.v.2.1) ∧
  w.cell? ⟨p.block, p.off + 4, none⟩ = some (.string e.v.2.2) ∧ w.cell? ⟨p.block, p.off + 5, none⟩ = some (.string e.nm) ∧ w.cell? ⟨p.block, p.off + 6, none⟩ = some u
theorem ExC.below {w w' : World} {B : Nat} {p : Addr} {e : Ex} {u : Value} (h : ExC w p e u) (hb : Below B w w') (hp : p.block < B) : ExC w' p e u := by
  obtain ⟨h0, h1, h2, h3, h4, h5, h6⟩ := h
  exact ⟨(hb.cell hp).trans h0, (hb.cell (p := ⟨p.block, p.off + 1, none⟩) hp).trans h1, (hb.cell (p := ⟨p.block, p.off + 2, none⟩) hp).trans h2, (hb.cell (p := ⟨p.block, p.off + 3, none⟩) hp).trans h3,
    (hb.cell (p := ⟨p.block, p.off + 4, none⟩) hp).trans h4, (hb.cell (p := ⟨p.block, p.off + 5, none⟩) hp).trans h5, (hb.cell (p := ⟨p.block, p.off + 6, none⟩) hp).trans h6⟩
/-- The slice v holds the expressions es, whose depth is less than d. -/
def RdE (w : World) (L B : Nat) : Nat → Value → List Ex → Prop
  | 0, _, _ => False
  | d + 1, v, es => ∃ A c, v = .slice A es.length c ∧ es.length ≤ 1099511627776 ∧ ∀ (k : Nat) (e : Ex), es[k]? = some e → ∃ (ad : Addr) (u : Value), A = some ad ∧ L ≤ ad.block ∧ ad.block < B ∧ ExC w (ad.add (k * 7)) e u ∧ RdE w L B d u e.args
theorem bel_mk (w : World) (o : Obj) : Below w.heap.size w (w.alloc o) := (Below.refl w.heap.size w).alloc (Nat.le_refl _) o
theorem add_blk (a : Addr) (i : Nat) : (a.add i).block = a.block := by unfold Addr.add; split <;> rfl
theorem RdE.below {w w' : World} {L B : Nat} (hb : Below B w w') : ∀ {d : Nat} {v : Value} {es : List Ex}, RdE w L B d v es → RdE w' L B d v es
  | 0, _, _, h => h
  | d + 1, v, es, ⟨A, c, hv, hl, hc⟩ => ⟨A, c, hv, hl, fun k e hk => let ⟨ad, u, h1, h2, h3, h4, h5⟩ := hc k e hk; ⟨ad, u, h1, h2, h3, h4.below hb (by rw [add_blk]; exact h3), RdE.below hb h5⟩⟩
theorem RdE.more {w : World} {L L' B B' : Nat} (hB : B ≤ B') (hL : L' ≤ L) : ∀ {d : Nat} {v : Value} {es : List Ex}, RdE w L B d v es → RdE w L' B' d v es
  | 0, _, _, h => h
  | d + 1, v, es, ⟨A, c, hv, hl, hc⟩ => ⟨A, c, hv, hl, fun k e hk => let ⟨ad, u, h1, h2, h3, h4, h5⟩ := hc k e hk; ⟨ad, u, h1, by omega, by omega, h4, RdE.more hB hL h5⟩⟩
theorem RdE.step {w w' : World} {L B d : Nat} {v : Value} {es : List Ex} (h : RdE w L B d v es) (hb : Below w.heap.size w w') (hB : B ≤ w.heap.size) : RdE w' L w'.heap.size d v es :=
  ((h.more hB (Nat.le_refl _)).below hb).more hb.size (Nat.le_refl _)
theorem RdE.up1 {w : World} {L B : Nat} : ∀ {d : Nat} {v : Value} {es : List Ex}, RdE w L B d v es → RdE w L B (d + 1) v es
  | 0, _, _, h => h.elim
  | d + 1, v, es, ⟨A, c, hv, hl, hc⟩ => ⟨A, c, hv, hl, fun k e hk => let ⟨ad, u, h1, h2, h3, h4, h5⟩ := hc k e hk; ⟨ad, u, h1, h2, h3, h4, h5.up1⟩⟩
theorem RdE.up {w : World} {L B d d' : Nat} {v : Value} {es : List Ex} (h : RdE w L B d v es) (hd : d ≤ d') : RdE w L B d' v es := by
  obtain ⟨k, rfl⟩ := Nat.le.dest hd
  clear hd
  induction k with
  | zero => exact h
  | succ k ih => exact ih.up1
theorem RdE.pos {w : World} {L B d : Nat} {v : Value} {es : List Ex} (h : RdE w L B d v es) : 0 < d := by
  cases d with
  | zero => exact h.elim
  | succ d => omega
theorem RdE.slice {w : World} {L B d : Nat} {v : Value} {es : List Ex} (h : RdE w L B d v es) : ∃ A c, v = .slice A es.length c ∧ es.length ≤ 1099511627776 := by
  cases d with
  | zero => exact h.elim
  | succ d => obtain ⟨A, c, h1, h2, _⟩ := h; exact ⟨A, c, h1, h2⟩
/-- The list e.args is no deeper than d - 1. -/
def Ex.Fin : Nat → Ex → Prop
  | 0, _ => False
  | d + 1, e => ∀ a ∈ e.args, Ex.Fin d a
theorem RdE.fin {w : World} {L B : Nat} : ∀ {d : Nat} {v : Value} {es : List Ex}, RdE w L B d v es → ∀ e ∈ es, Ex.Fin d ⟨0, 0, (0, 0, ⟨#[]⟩), ⟨#[]⟩, es⟩
  | 0, _, _, h => h.elim
  | d + 1, _, _, ⟨_, _, _, _, hc⟩ => fun _ _ => fun a ha => by
    obtain ⟨k, hk⟩ := List.mem_iff_getElem?.1 ha
    obtain ⟨ad, u, _, _, _, _, h5⟩ := hc k a hk
    cases d with
    | zero => exact h5.elim
    | succ d =>
      intro b hb
      exact h5.fin b hb b hb
/-- The cells of a box of seven cells, in every later world. -/
theorem ex_cells {W : World} {g : Nat} {e : Ex} {u : Value} (hg : g < W.heap.size) (o : Own W g 65 (exA e u)) :
    (∀ p : After W, p.w.cell? ⟨g, 0, none⟩ = some (.int .i64 e.op)) ∧ (∀ p : After W, p.w.cell? ⟨g, 1, none⟩ = some (.int .i64 e.n)) ∧ (∀ p : After W, p.w.cell? ⟨g, 2, none⟩ = some (.int .i64 e.v.1)) ∧
    (∀ p : After W, p.w.cell? ⟨g, 3, none⟩ = some (.int .i64 e.v.2.1)) ∧ (∀ p : After W, p.w.cell? ⟨g, 4, none⟩ = some (.string e.v.2.2)) ∧ (∀ p : After W, p.w.cell? ⟨g, 5, none⟩ = some (.string e.nm)) ∧ (∀ p : After W, p.w.cell? ⟨g, 6, none⟩ = some u) :=
  ⟨after_cell hg (o.cell 0), after_cell hg (o.cell 1), after_cell hg (o.cell 2), after_cell hg (o.cell 3), after_cell hg (o.cell 4), after_cell hg (o.cell 5), after_cell hg (o.cell 6)⟩
end Go.Proofs.Yteihjneeiojgaaa
/-
  The depth of an expression, by the program and by the reference. Conditions: limits.
-/
namespace Go.Proofs.Yteihjneeiojgaaa
set_option maxRecDepth 100000
set_option linter.unusedVariables false
set_option linter.unusedSimpArgs false
open Go.RowKit

def depE : Nat → Ex → Nat
  | 0, _ => 0
  | d + 1, e => (e.args.map (depE d)).foldl max 0 + 1
def mxE (d : Nat) (l : List Ex) : Nat := (l.map (depE d)).foldl max 0
theorem depE_succ (d : Nat) (e : Ex) : depE (d + 1) e = mxE d e.args + 1 := rfl
theorem mxE_succ (d : Nat) (l : List Ex) (k : Nat) (h : k < l.length) : mxE d (l.take (k + 1)) = max (mxE d (l.take k)) (depE d l[k]) := by
  unfold mxE
  rw [List.take_succ_eq_append_getElem h, List.map_append, List.foldl_append]
  rfl
theorem mxE_le (d : Nat) (h : ∀ e, depE d e ≤ d) (l : List Ex) : mxE d l ≤ d := by
  unfold mxE
  have : ∀ (l : List Ex) (m : Nat), m ≤ d → (l.map (depE d)).foldl max m ≤ d := by
    intro l
    induction l with
    | nil => intro m hm; exact hm
    | cons a l ih => intro m hm; exact ih _ (by have := h a; omega)
  exact this l 0 (Nat.zero_le _)
theorem depE_le : ∀ (d : Nat) (e : Ex), depE d e ≤ d
  | 0, _ => Nat.le_refl _
  | d + 1, e => by rw [depE_succ]; have := mxE_le d (depE_le d) e.args; omega
theorem box_ex (w : World) (e : Ex) (u : Value) : ∃ cs : Array Value, cs = exA e u ∧ Own (w.alloc (.cells cs 65)) w.heap.size 65 (exA e u) := ⟨_, rfl, Own.new w _ _⟩
set_option maxRecDepth 100000 in
set_option maxHeartbeats 6400000 in
theorem pLim_any : ∀ (d : Nat) (e : Ex) (u : Value) (lim : Nat) (w : World) (L : Nat), RdE w L w.heap.size d u e.args → 1 ≤ lim → lim ≤ 1000 →
    Calls Try.prog 70 #[exV e u, .int .i64 lim] w fun e' w' => e' = .returned (.int .i64 (min (depE d e) lim : Nat)) ∧ Below w.heap.size w w'
  | 0, e, u, lim, w, L, h, _, _ => h.elim
  | d + 1, e, u, lim, w, L, h, hl1, hl2 => by
    have IH := Lib.hid (pLim_any d)
    obtain ⟨op, n, ⟨v1, v2, v3⟩, nm, es⟩ := e
    rw [depE_succ]
    unfold exV
    dsimp only at h ⊢
    obtain ⟨A, c, rfl, hl, hc⟩ := h
    have HC := Lib.hid hc
    clear hc
    by_cases h1 : lim = 1
    · subst h1
      have HM := Lib.hid (show ((min (mxE d es + 1) 1 : Nat) : Int) = 1 by omega)
      go_enter Try.func70, Try.ntmps70
      go_wp2
      go_ret
      exact ⟨by rw [HM.out]; rfl, (Below.refl w.heap.size w).alloc (Nat.le_refl _) _⟩
    have hli : ¬ ((lim : Nat) : Int) = 1 := by omega
    have b0 := bel_mk w (.cells #[.int .i64 op, .int .i64 n, .int .i64 v1, .int .i64 v2, .string v3, .string nm, .slice A es.length c] 65)
    have o0 : Own (w.alloc (.cells #[.int .i64 op, .int .i64 n, .int .i64 v1, .int .i64 v2, .string v3, .string nm, .slice A es.length c] 65)) w.heap.size 65 #[.int .i64 op, .int .i64 n, .int .i64 v1, .int .i64 v2, .string v3, .string nm, .slice A es.length c] := Own.new w _ _
    have HB0 := Lib.hid b0
    have hcell := o0.cell 6
    clear b0 o0
    go_enter Try.func70, Try.ntmps70
    go_wp2
    go_loopw [5, 7, 13] (fun m _ i wr => ∃ k : Nat, k ≤ es.length ∧ i = .int .i64 k ∧ m = .int .i64 (min (mxE d (es.take k)) (lim - 1) : Nat) ∧ Below w.heap.size w wr) (fun _ _ i _ => es.length - (intOf i).toNat)
    case atStart => exact ⟨0, Nat.zero_le _, rfl, by simp [mxE], HB0.out⟩
    case round =>
      obtain ⟨k, hk, rfl, rfl, hbr⟩ := hrel
      have hbz := hbr.size
      by_cases hlt : k < es.length
      · have hki : (k : Int) < es.length := by omega
        obtain ⟨ad, x, rfl, _, hab, hxc, hxr⟩ := HC.out k _ (List.getElem?_eq_getElem hlt)
        obtain ⟨A2, cc, rfl, hl2⟩ := hxr.slice
        have hx := hxc.below hbr (by rw [add_blk]; exact hab)
        have hm := mxE_succ d es k hlt
        have HR := Lib.hid ((hxr.below hbr).more hbz (Nat.le_refl _))
        clear hxc hxr
        generalize es[k] = y at *
        obtain ⟨c0, c1, c2, c3, c4, c5, c6⟩ := hx
        have HM := Lib.hid hm
        clear hm
        have bX := bel_mk wr (.cells (exA y (.slice A2 y.args.length cc)) 65)
        unfold exA at bX
        have RX := HR.out.step bX (Nat.le_refl _)
        have sX : wr.heap.size < (wr.alloc (.cells #[.int .i64 y.op, .int .i64 y.n, .int .i64 y.v.1, .int .i64 y.v.2.1, .string y.v.2.2, .string y.nm, .slice A2 y.args.length cc] 65)).heap.size := by simp
        have hcall := IH.out y (.slice A2 y.args.length cc) (lim - 1) _ L RX (by omega) (by omega)
        unfold exV at hcall
        rw [show ((lim - 1 : Nat) : Int) = (lim : Int) - 1 by omega] at hcall
        have HX := Lib.hid hcall
        have HBX := Lib.hid (hbr.trans (bX.mono hbz))
        have HN := Lib.hid (show ((min (mxE d (es.take (k + 1))) (lim - 1) : Nat) : Int) = max ((min (mxE d (es.take k)) (lim - 1) : Nat) : Int) ((min (depE d y) (lim - 1) : Nat) : Int) by rw [HM.out]; omega)
        clear bX RX hcall
        go_wp2_with fail
        with_reducible refine HX.out.mono ?_
        rintro e w1 ⟨rfl, hb1⟩
        have HB1 := Lib.hid (HBX.out.trans (hb1.mono (Nat.le_trans hbz (Nat.le_of_lt sX))))
        clear hb1 HX
        generalize ((min (depE d y) (lim - 1) : Nat) : Int) = q at *
        go_wp2
        all_goals
          go_round
          case rel => exact ⟨_, _, _, ⟨k + 1, by omega, by go_num, (by have := HN.out; congr 1; omega), HB1.out⟩, rfl, rfl, rfl⟩
          case measure => simp [intOf]; omega
      · have hki : ¬ (k : Int) < es.length := by omega
        rw [List.take_of_length_le (by omega)]
        have HM := Lib.hid (show ((min (mxE d es + 1) lim : Nat) : Int) = 1 + ((min (mxE d es) (lim - 1) : Nat) : Int) by omega)
        have HQ := Lib.hid (show ((min (mxE d es) (lim - 1) : Nat) : Int) ≤ 1000 by omega)
        go_wp2
        go_ret
        exact ⟨by rw [HM.out]; rfl, hbr⟩
end Go.Proofs.Yteihjneeiojgaaa
