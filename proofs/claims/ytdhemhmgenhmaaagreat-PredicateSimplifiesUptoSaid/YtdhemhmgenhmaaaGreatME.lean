import Derived.Test.YtdhemhmgenhmaaaGreatProg
import Derived.Test.YtdhemhmgenhmaaaGreatMA
import Derived.WalkKit
import Derived.WalkSpells
import Derived.WalkLawsBesides
import Derived.Deep.QuietTactic
import Derived.BigQuiet
import Derived.Handy
import Derived.Lib.Hide
import Derived.Test.YtdhemhmgenhmaaaGreatSTvAl4
set_option maxRecDepth 100000
set_option maxHeartbeats 25600000
set_option linter.unusedVariables false
set_option linter.unusedSimpArgs false
/-
  Expressions in memory: trees of a bounded depth. Conditions: none.
-/
namespace Go.Proofs.YtdhemhmgenhmaaaGreat
open Go.RowKit
structure Ex where
 op : Int
 n : Int
 v : Int × Int × ByteArray
 nm : ByteArray
 args : List Ex
def exV (e : Ex) (u : Value) : Value := .agg #[.int .i64 e.op, .int .i64 e.n, .int .i64 e.v.1, .int .i64 e.v.2.1, .string e.v.2.2, .string e.nm, u]
def exA (e : Ex) (u : Value) : Array Value := #[.int .i64 e.op, .int .i64 e.n, .int .i64 e.v.1, .int .i64 e.v.2.1, .string e.v.2.2, .string e.nm, u]
def ExC (w : World) (p : Addr) (e : Ex) (u : Value) : Prop :=
 w.cell? p = some (.int .i64 e.op) ∧ w.cell? ⟨p.block, p.off + 1, none⟩ = some (.int .i64 e.n) ∧ w.cell? ⟨p.block, p.off + 2, none⟩ = some (.int .i64 e.v.1) ∧ w.cell? ⟨p.block, p.off + 3, none⟩ = some (.int .i64 e.v.2.1) ∧
 w.cell? ⟨p.block, p.off + 4, none⟩ = some (.string e.v.2.2) ∧ w.cell? ⟨p.block, p.off + 5, none⟩ = some (.string e.nm) ∧ w.cell? ⟨p.block, p.off + 6, none⟩ = some u
theorem ExC.below {w w' : World} {B : Nat} {p : Addr} {e : Ex} {u : Value} (h : ExC w p e u) (hb : Below B w w') (hp : p.block < B) : ExC w' p e u := by
 obtain ⟨h0, h1, h2, h3, h4, h5, h6⟩ := h
 exact ⟨(hb.cell hp).trans h0, (hb.cell (p := ⟨p.block, p.off + 1, none⟩) hp).trans h1, (hb.cell (p := ⟨p.block, p.off + 2, none⟩) hp).trans h2, (hb.cell (p := ⟨p.block, p.off + 3, none⟩) hp).trans h3,
  (hb.cell (p := ⟨p.block, p.off + 4, none⟩) hp).trans h4, (hb.cell (p := ⟨p.block, p.off + 5, none⟩) hp).trans h5, (hb.cell (p := ⟨p.block, p.off + 6, none⟩) hp).trans h6⟩
def RdE (w : World) (L B : Nat) : Nat → Value → List Ex → Prop
 | 0, _, _ => False
 | d + 1, v, es => ∃ A c, v = .slice A es.length c ∧ es.length ≤ 1099511627776 ∧ ∀ (k : Nat) (e : Ex), es[k]? = some e → ∃ (ad : Addr) (u : Value), A = some ad ∧ L ≤ ad.block ∧ ad.block < B ∧ ExC w (ad.add (k * 7)) e u ∧ RdE w L B d u e.args
theorem bel_mk (w : World) (o : Obj) : Below w.heap.size w (w.alloc o) := (Below.refl w.heap.size w).alloc (Nat.le_refl _) o
theorem add_blk (a : Addr) (i : Nat) : (a.add i).block = a.block := by unfold Addr.add; split <;> rfl
theorem RdE.below {w w' : World} {L B : Nat} (hb : Below B w w') : ∀ {d : Nat} {v : Value} {es : List Ex}, RdE w L B d v es → RdE w' L B d v es
 | 0, _, _, h => h
 | d + 1, v, es, ⟨A, c, hv, hl, hc⟩ => ⟨A, c, hv, hl, fun k e hk => let ⟨ad, u, h1, h2, h3, h4, h5⟩ := hc k e hk; ⟨ad, u, h1, h2, h3, h4.below hb (by rw [add_blk]; exact h3), RdE.below hb h5⟩⟩
theorem RdE.more {w : World} {L L' B B' : Nat} (hB : B ≤ B') (hL : L' ≤ L) : ∀ {d : Nat} {v : Value} {es : List Ex}, RdE w L B d v es → RdE w L' B' d v es
 | 0, _, _, h => h
 | d + 1, v, es, ⟨A, c, hv, hl, hc⟩ => ⟨A, c, hv, hl, fun k e hk => let ⟨ad, u, h1, h2, h3, h4, h5⟩ := hc k e hk; ⟨ad, u, h1, by omega, by omega, h4, RdE.more hB hL h5⟩⟩
theorem RdE.step {w w' : World} {L B d : Nat} {v : Value} {es : List Ex} (h : RdE w L B d v es) (hb : Below w.heap.size w w') (hB : B ≤ w.heap.size) : RdE w' L w'.heap.size d v es :=
 ((h.more hB (Nat.le_refl _)).below hb).more hb.size (Nat.le_refl _)
theorem RdE.up1 {w : World} {L B : Nat} : ∀ {d : Nat} {v : Value} {es : List Ex}, RdE w L B d v es → RdE w L B (d + 1) v es
 | 0, _, _, h => h.elim
 | d + 1, v, es, ⟨A, c, hv, hl, hc⟩ => ⟨A, c, hv, hl, fun k e hk => let ⟨ad, u, h1, h2, h3, h4, h5⟩ := hc k e hk; ⟨ad, u, h1, h2, h3, h4, h5.up1⟩⟩
theorem RdE.up {w : World} {L B d d' : Nat} {v : Value} {es : List Ex} (h : RdE w L B d v es) (hd : d ≤ d') : RdE w L B d' v es := by
 obtain ⟨k, rfl⟩ := Nat.le.dest hd
 clear hd
 induction k with
 | zero => exact h
 | succ k ih => exact ih.up1
theorem RdE.pos {w : World} {L B d : Nat} {v : Value} {es : List Ex} (h : RdE w L B d v es) : 0 < d := by
 cases d with
 | zero => exact h.elim
 | succ d => omega
theorem RdE.slice {w : World} {L B d : Nat} {v : Value} {es : List Ex} (h : RdE w L B d v es) : ∃ A c, v = .slice A es.length c ∧ es.length ≤ 1099511627776 := by
 cases d with
 | zero => exact h.elim
 | succ d => obtain ⟨A, c, h1, h2, _⟩ := h; exact ⟨A, c, h1, h2⟩
def Ex.Fin : Nat → Ex → Prop
 | 0, _ => False
 | d + 1, e => ∀ a ∈ e.args, Ex.Fin d a
theorem RdE.fin {w : World} {L B : Nat} : ∀ {d : Nat} {v : Value} {es : List Ex}, RdE w L B d v es → ∀ e ∈ es, Ex.Fin d ⟨0, 0, (0, 0, ⟨#[]⟩), ⟨#[]⟩, es⟩
 | 0, _, _, h => h.elim
 | d + 1, _, _, ⟨_, _, _, _, hc⟩ => fun _ _ => fun a ha => by
  obtain ⟨k, hk⟩ := List.mem_iff_getElem?.1 ha
  obtain ⟨ad, u, _, _, _, _, h5⟩ := hc k a hk
  cases d with
  | zero => exact h5.elim
  | succ d =>
   intro b hb
   exact h5.fin b hb b hb
theorem ex_cells {W : World} {g : Nat} {e : Ex} {u : Value} (hg : g < W.heap.size) (o : Own W g 26 (exA e u)) :
  (∀ p : After W, p.w.cell? ⟨g, 0, none⟩ = some (.int .i64 e.op)) ∧ (∀ p : After W, p.w.cell? ⟨g, 1, none⟩ = some (.int .i64 e.n)) ∧ (∀ p : After W, p.w.cell? ⟨g, 2, none⟩ = some (.int .i64 e.v.1)) ∧
  (∀ p : After W, p.w.cell? ⟨g, 3, none⟩ = some (.int .i64 e.v.2.1)) ∧ (∀ p : After W, p.w.cell? ⟨g, 4, none⟩ = some (.string e.v.2.2)) ∧ (∀ p : After W, p.w.cell? ⟨g, 5, none⟩ = some (.string e.nm)) ∧ (∀ p : After W, p.w.cell? ⟨g, 6, none⟩ = some u) :=
 ⟨after_cell hg (o.cell 0), after_cell hg (o.cell 1), after_cell hg (o.cell 2), after_cell hg (o.cell 3), after_cell hg (o.cell 4), after_cell hg (o.cell 5), after_cell hg (o.cell 6)⟩
end Go.Proofs.YtdhemhmgenhmaaaGreat
namespace Go.Proofs.YtdhemhmgenhmaaaGreat
open Go.RowKit
def depE : Nat → Ex → Nat
 | 0, _ => 0
 | d + 1, e => (e.args.map (depE d)).foldl max 0 + 1
def mxE (d : Nat) (l : List Ex) : Nat := (l.map (depE d)).foldl max 0
theorem depE_succ (d : Nat) (e : Ex) : depE (d + 1) e = mxE d e.args + 1 := rfl
theorem mxE_succ (d : Nat) (l : List Ex) (k : Nat) (h : k < l.length) : mxE d (l.take (k + 1)) = max (mxE d (l.take k)) (depE d l[k]) := by
 unfold mxE
 rw [List.take_succ_eq_append_getElem h, List.map_append, List.foldl_append]
 rfl
theorem mxE_le (d : Nat) (h : ∀ e, depE d e ≤ d) (l : List Ex) : mxE d l ≤ d := by
 unfold mxE
 have : ∀ (l : List Ex) (m : Nat), m ≤ d → (l.map (depE d)).foldl max m ≤ d := by
  intro l
  induction l with
  | nil => intro m hm; exact hm
  | cons a l ih => intro m hm; exact ih _ (by have := h a; omega)
 exact this l 0 (Nat.zero_le _)
theorem depE_le : ∀ (d : Nat) (e : Ex), depE d e ≤ d
 | 0, _ => Nat.le_refl _
 | d + 1, e => by rw [depE_succ]; have := mxE_le d (depE_le d) e.args; omega
theorem pLim_any : ∀ (d : Nat) (e : Ex) (u : Value) (lim : Nat) (w : World) (L : Nat), RdE w L w.heap.size d u e.args → 1 ≤ lim → lim ≤ 1000 →
  Calls Tryz.prog 119 #[exV e u, .int .i64 lim] w fun e' w' => e' = .returned (.int .i64 (min (depE d e) lim : Nat)) ∧ Below w.heap.size w w'
 | 0, e, u, lim, w, L, h, _, _ => h.elim
 | d + 1, e, u, lim, w, L, h, hl1, hl2 => by
  have IH := Lib.hid (pLim_any d)
  obtain ⟨op, n, ⟨v1, v2, v3⟩, nm, es⟩ := e
  rw [depE_succ]
  unfold exV
  dsimp only at h ⊢
  obtain ⟨A, c, rfl, hl, hc⟩ := h
  have HC := Lib.hid hc
  clear hc
  by_cases h1 : lim = 1
  ·subst h1
   have HM := Lib.hid (show ((min (mxE d es + 1) 1 : Nat) : Int) = 1 by omega)
   go_enter Tryz.func119, Tryz.ntmps119
   go_wp2
   go_ret
   exact ⟨by rw [HM.out]; rfl, (Below.refl w.heap.size w).alloc (Nat.le_refl _) _⟩
  have hli : ¬ ((lim : Nat) : Int) = 1 := by omega
  have b0 := bel_mk w (.cells #[.int .i64 op, .int .i64 n, .int .i64 v1, .int .i64 v2, .string v3, .string nm, .slice A es.length c] 26)
  have o0 : Own (w.alloc (.cells #[.int .i64 op, .int .i64 n, .int .i64 v1, .int .i64 v2, .string v3, .string nm, .slice A es.length c] 26)) w.heap.size 26 #[.int .i64 op, .int .i64 n, .int .i64 v1, .int .i64 v2, .string v3, .string nm, .slice A es.length c] := Own.new w _ _
  have HB0 := Lib.hid b0
  have hcell := o0.cell 6
  clear b0 o0
  go_enter Tryz.func119, Tryz.ntmps119
  go_wp2
  go_loopw [5, 7, 13] (fun m _ i wr => ∃ k : Nat, k ≤ es.length ∧ i = .int .i64 k ∧ m = .int .i64 (min (mxE d (es.take k)) (lim - 1) : Nat) ∧ Below w.heap.size w wr) (fun _ _ i _ => es.length - (intOf i).toNat)
  case atStart => exact ⟨0, Nat.zero_le _, rfl, by simp [mxE], HB0.out⟩
  case round =>
   obtain ⟨k, hk, rfl, rfl, hbr⟩ := hrel
   have hbz := hbr.size
   by_cases hlt : k < es.length
   ·have hki : (k : Int) < es.length := by omega
    obtain ⟨ad, x, rfl, _, hab, hxc, hxr⟩ := HC.out k _ (List.getElem?_eq_getElem hlt)
    obtain ⟨A2, cc, rfl, hl2⟩ := hxr.slice
    have hx := hxc.below hbr (by rw [add_blk]; exact hab)
    have hm := mxE_succ d es k hlt
    have HR := Lib.hid ((hxr.below hbr).more hbz (Nat.le_refl _))
    clear hxc hxr
    generalize es[k] = y at *
    obtain ⟨c0, c1, c2, c3, c4, c5, c6⟩ := hx
    have HM := Lib.hid hm
    clear hm
    have bX := bel_mk wr (.cells (exA y (.slice A2 y.args.length cc)) 26)
    unfold exA at bX
    have RX := HR.out.step bX (Nat.le_refl _)
    have sX : wr.heap.size < (wr.alloc (.cells #[.int .i64 y.op, .int .i64 y.n, .int .i64 y.v.1, .int .i64 y.v.2.1, .string y.v.2.2, .string y.nm, .slice A2 y.args.length cc] 26)).heap.size := by simp
    have hcall := IH.out y (.slice A2 y.args.length cc) (lim - 1) _ L RX (by omega) (by omega)
    unfold exV at hcall
    rw [show ((lim - 1 : Nat) : Int) = (lim : Int) - 1 by omega] at hcall
    have HX := Lib.hid hcall
    have HBX := Lib.hid (hbr.trans (bX.mono hbz))
    have HN := Lib.hid (show ((min (mxE d (es.take (k + 1))) (lim - 1) : Nat) : Int) = max ((min (mxE d (es.take k)) (lim - 1) : Nat) : Int) ((min (depE d y) (lim - 1) : Nat) : Int) by rw [HM.out]; omega)
    clear bX RX hcall
    go_wp2_with fail
    with_reducible refine HX.out.mono ?_
    rintro e w1 ⟨rfl, hb1⟩
    have HB1 := Lib.hid (HBX.out.trans (hb1.mono (Nat.le_trans hbz (Nat.le_of_lt sX))))
    clear hb1 HX
    generalize ((min (depE d y) (lim - 1) : Nat) : Int) = q at *
    go_wp2
    all_goals
     go_round
     case rel => exact ⟨_, _, _, ⟨k + 1, by omega, by go_num, (by have := HN.out; congr 1; omega), HB1.out⟩, rfl, rfl, rfl⟩
     case measure => simp [intOf]; omega
   ·have hki : ¬ (k : Int) < es.length := by omega
    rw [List.take_of_length_le (by omega)]
    have HM := Lib.hid (show ((min (mxE d es + 1) lim : Nat) : Int) = 1 + ((min (mxE d es) (lim - 1) : Nat) : Int) by omega)
    have HQ := Lib.hid (show ((min (mxE d es) (lim - 1) : Nat) : Int) ≤ 1000 by omega)
    go_wp2
    go_ret
    exact ⟨by rw [HM.out]; rfl, hbr⟩
end Go.Proofs.YtdhemhmgenhmaaaGreat
namespace Go.Proofs.YtdhemhmgenhmaaaGreat
open Go.RowKit
variable {w w' w0 w1 w2 : World} {B g : Nat} {t : TypeId} {cs : Array Value} {x0 x1 x2 x3 x4 x5 x6 x7 x8 : Value}
theorem bx1 (w : World) (t0 : TypeId) (c0 : Array Value) : Hid (Own (w.alloc (.cells c0 t0)) w.heap.size t0 c0) ∧ Hid (Below w.heap.size w (w.alloc (.cells c0 t0))) := by
 exact ⟨by have h := Own.new w t0 c0; (try simp only [World.size_alloc] at h); exact h, bel_mk w (.cells c0 t0)⟩
theorem bx2 (w : World) (t0 : TypeId) (c0 : Array Value) (t1 : TypeId) (c1 : Array Value) : Hid (Own ((w.alloc (.cells c0 t0)).alloc (.cells c1 t1)) w.heap.size t0 c0) ∧ Hid (Own ((w.alloc (.cells c0 t0)).alloc (.cells c1 t1)) (w.heap.size + 1) t1 c1) ∧ Hid (Below w.heap.size w ((w.alloc (.cells c0 t0)).alloc (.cells c1 t1))) := by
 exact ⟨by have h := Own.new w t0 c0; (try simp only [World.size_alloc] at h); exact (h.alloc (.cells c1 t1)), by have h := Own.new (w.alloc (.cells c0 t0)) t1 c1; (try simp only [World.size_alloc] at h); exact h, (bel_mk w (.cells c0 t0)).trans ((bel_mk (w.alloc (.cells c0 t0)) (.cells c1 t1)).mono (by simp only [World.size_alloc]; omega))⟩
theorem bx3 (w : World) (t0 : TypeId) (c0 : Array Value) (t1 : TypeId) (c1 : Array Value) (t2 : TypeId) (c2 : Array Value) : Hid (Own (((w.alloc (.cells c0 t0)).alloc (.cells c1 t1)).alloc (.cells c2 t2)) w.heap.size t0 c0) ∧ Hid (Own (((w.alloc (.cells c0 t0)).alloc (.cells c1 t1)).alloc (.cells c2 t2)) (w.heap.size + 1) t1 c1) ∧ Hid (Own (((w.alloc (.cells c0 t0)).alloc (.cells c1 t1)).alloc (.cells c2 t2)) (w.heap.size + 1 + 1) t2 c2) ∧ Hid (Below w.heap.size w (((w.alloc (.cells c0 t0)).alloc (.cells c1 t1)).alloc (.cells c2 t2))) := by
 exact ⟨by have h := Own.new w t0 c0; (try simp only [World.size_alloc] at h); exact ((h.alloc (.cells c1 t1)).alloc (.cells c2 t2)), by have h := Own.new (w.alloc (.cells c0 t0)) t1 c1; (try simp only [World.size_alloc] at h); exact (h.alloc (.cells c2 t2)), by have h := Own.new ((w.alloc (.cells c0 t0)).alloc (.cells c1 t1)) t2 c2; (try simp only [World.size_alloc] at h); exact h, ((bel_mk w (.cells c0 t0)).trans ((bel_mk (w.alloc (.cells c0 t0)) (.cells c1 t1)).mono (by simp only [World.size_alloc]; omega))).trans ((bel_mk ((w.alloc (.cells c0 t0)).alloc (.cells c1 t1)) (.cells c2 t2)).mono (by simp only [World.size_alloc]; omega))⟩
theorem bx4 (w : World) (t0 : TypeId) (c0 : Array Value) (t1 : TypeId) (c1 : Array Value) (t2 : TypeId) (c2 : Array Value) (t3 : TypeId) (c3 : Array Value) : Hid (Own ((((w.alloc (.cells c0 t0)).alloc (.cells c1 t1)).alloc (.cells c2 t2)).alloc (.cells c3 t3)) w.heap.size t0 c0) ∧ Hid (Own ((((w.alloc (.cells c0 t0)).alloc (.cells c1 t1)).alloc (.cells c2 t2)).alloc (.cells c3 t3)) (w.heap.size + 1) t1 c1) ∧ Hid (Own ((((w.alloc (.cells c0 t0)).alloc (.cells c1 t1)).alloc (.cells c2 t2)).alloc (.cells c3 t3)) (w.heap.size + 1 + 1) t2 c2) ∧ Hid (Own ((((w.alloc (.cells c0 t0)).alloc (.cells c1 t1)).alloc (.cells c2 t2)).alloc (.cells c3 t3)) (w.heap.size + 1 + 1 + 1) t3 c3) ∧ Hid (Below w.heap.size w ((((w.alloc (.cells c0 t0)).alloc (.cells c1 t1)).alloc (.cells c2 t2)).alloc (.cells c3 t3))) := by
 exact ⟨by have h := Own.new w t0 c0; (try simp only [World.size_alloc] at h); exact (((h.alloc (.cells c1 t1)).alloc (.cells c2 t2)).alloc (.cells c3 t3)), by have h := Own.new (w.alloc (.cells c0 t0)) t1 c1; (try simp only [World.size_alloc] at h); exact ((h.alloc (.cells c2 t2)).alloc (.cells c3 t3)), by have h := Own.new ((w.alloc (.cells c0 t0)).alloc (.cells c1 t1)) t2 c2; (try simp only [World.size_alloc] at h); exact (h.alloc (.cells c3 t3)), by have h := Own.new (((w.alloc (.cells c0 t0)).alloc (.cells c1 t1)).alloc (.cells c2 t2)) t3 c3; (try simp only [World.size_alloc] at h); exact h, (((bel_mk w (.cells c0 t0)).trans ((bel_mk (w.alloc (.cells c0 t0)) (.cells c1 t1)).mono (by simp only [World.size_alloc]; omega))).trans ((bel_mk ((w.alloc (.cells c0 t0)).alloc (.cells c1 t1)) (.cells c2 t2)).mono (by simp only [World.size_alloc]; omega))).trans ((bel_mk (((w.alloc (.cells c0 t0)).alloc (.cells c1 t1)).alloc (.cells c2 t2)) (.cells c3 t3)).mono (by simp only [World.size_alloc]; omega))⟩
theorem oc4 (h : Hid (Own w g t #[x0, x1, x2, x3])) : w.cell? ⟨g, 0, none⟩ = some x0 ∧ w.cell? ⟨g, 1, none⟩ = some x1 ∧ w.cell? ⟨g, 2, none⟩ = some x2 ∧ w.cell? ⟨g, 3, none⟩ = some x3 :=
 ⟨h.out.cell 0, h.out.cell 1, h.out.cell 2, h.out.cell 3⟩
theorem om4 (h : Hid (Own w g t #[x0, x1, x2, x3])) : w.cell? ⟨g, 0, none⟩ = some x0 ∧ w.cell? ⟨g, 1, none⟩ = some x1 ∧ w.cell? ⟨g, 2, none⟩ = some x2 ∧ w.cell? ⟨g, 3, none⟩ = some x3 ∧ w.frozen? ⟨g, 0, none⟩ = false ∧ w.frozen? ⟨g, 1, none⟩ = false ∧ w.frozen? ⟨g, 2, none⟩ = false ∧ w.frozen? ⟨g, 3, none⟩ = false :=
 ⟨h.out.cell 0, h.out.cell 1, h.out.cell 2, h.out.cell 3, h.out.free 0, h.out.free 1, h.out.free 2, h.out.free 3⟩
theorem oc9 (h : Hid (Own w g t #[x0, x1, x2, x3, x4, x5, x6, x7, x8])) : w.cell? ⟨g, 0, none⟩ = some x0 ∧ w.cell? ⟨g, 1, none⟩ = some x1 ∧ w.cell? ⟨g, 2, none⟩ = some x2 ∧ w.cell? ⟨g, 3, none⟩ = some x3 ∧ w.cell? ⟨g, 4, none⟩ = some x4 ∧ w.cell? ⟨g, 5, none⟩ = some x5 ∧ w.cell? ⟨g, 6, none⟩ = some x6 ∧ w.cell? ⟨g, 7, none⟩ = some x7 ∧ w.cell? ⟨g, 8, none⟩ = some x8 :=
 ⟨h.out.cell 0, h.out.cell 1, h.out.cell 2, h.out.cell 3, h.out.cell 4, h.out.cell 5, h.out.cell 6, h.out.cell 7, h.out.cell 8⟩
theorem om9 (h : Hid (Own w g t #[x0, x1, x2, x3, x4, x5, x6, x7, x8])) : w.cell? ⟨g, 0, none⟩ = some x0 ∧ w.cell? ⟨g, 1, none⟩ = some x1 ∧ w.cell? ⟨g, 2, none⟩ = some x2 ∧ w.cell? ⟨g, 3, none⟩ = some x3 ∧ w.cell? ⟨g, 4, none⟩ = some x4 ∧ w.cell? ⟨g, 5, none⟩ = some x5 ∧ w.cell? ⟨g, 6, none⟩ = some x6 ∧ w.cell? ⟨g, 7, none⟩ = some x7 ∧ w.cell? ⟨g, 8, none⟩ = some x8 ∧ w.frozen? ⟨g, 0, none⟩ = false ∧ w.frozen? ⟨g, 1, none⟩ = false ∧ w.frozen? ⟨g, 2, none⟩ = false ∧ w.frozen? ⟨g, 3, none⟩ = false ∧ w.frozen? ⟨g, 4, none⟩ = false ∧ w.frozen? ⟨g, 5, none⟩ = false ∧ w.frozen? ⟨g, 6, none⟩ = false ∧ w.frozen? ⟨g, 7, none⟩ = false ∧ w.frozen? ⟨g, 8, none⟩ = false :=
 ⟨h.out.cell 0, h.out.cell 1, h.out.cell 2, h.out.cell 3, h.out.cell 4, h.out.cell 5, h.out.cell 6, h.out.cell 7, h.out.cell 8, h.out.free 0, h.out.free 1, h.out.free 2, h.out.free 3, h.out.free 4, h.out.free 5, h.out.free 6, h.out.free 7, h.out.free 8⟩
theorem blw (h : Hid (Own w g t cs)) (hb : Below w.heap.size w w') : Hid (Own w' g t cs) := h.out.below hb h.out.lt
theorem drw (h : Hid (Own w g t cs)) : Hid (Own w.drew g t cs) := h
theorem drb (h : Hid (Below B w w')) : Hid (Below B w w'.drew) := h.out.drew
theorem btr (h : Hid (Below w.heap.size w w1)) (hb : Below w1.heap.size w1 w2) : Hid (Below w.heap.size w w2) := h.out.trans (hb.mono h.out.size)
theorem s4 (v0 v1 v2 v3 : Value) (h : Hid (Own w g t #[x0, x1, x2, x3])) (hB : Hid (Below B w0 w)) (hg : B ≤ g := by omega) : Hid (Own ((((w.setCell ⟨g, 0, none⟩ v0).setCell ⟨g, 1, none⟩ v1).setCell ⟨g, 2, none⟩ v2).setCell ⟨g, 3, none⟩ v3) g t #[v0, v1, v2, v3]) ∧ Hid (Below B w0 ((((w.setCell ⟨g, 0, none⟩ v0).setCell ⟨g, 1, none⟩ v1).setCell ⟨g, 2, none⟩ v2).setCell ⟨g, 3, none⟩ v3)) ∧ ∀ b u cs, Hid (Own w b u cs) → b ≠ g → Hid (Own ((((w.setCell ⟨g, 0, none⟩ v0).setCell ⟨g, 1, none⟩ v1).setCell ⟨g, 2, none⟩ v2).setCell ⟨g, 3, none⟩ v3) b u cs) := by
 refine ⟨?_, ((((hB.out.setCell (p := ⟨g, 0, none⟩) hg v0).setCell (p := ⟨g, 1, none⟩) hg v1).setCell (p := ⟨g, 2, none⟩) hg v2).setCell (p := ⟨g, 3, none⟩) hg v3), fun b u cs hb hne => ((((hb.out.far (p := ⟨g, 0, none⟩) hne v0).far (p := ⟨g, 1, none⟩) hne v1).far (p := ⟨g, 2, none⟩) hne v2).far (p := ⟨g, 3, none⟩) hne v3)⟩
 have hx := ((((h.out.store 0 v0).store 1 v1).store 2 v2).store 3 v3)
 simp only [List.setIfInBounds_toArray, List.set_cons_zero, List.set_cons_succ] at hx
 exact hx
theorem s9 (v0 v1 v2 v3 v4 v5 v6 v7 v8 : Value) (h : Hid (Own w g t #[x0, x1, x2, x3, x4, x5, x6, x7, x8])) (hB : Hid (Below B w0 w)) (hg : B ≤ g := by omega) : Hid (Own (((((((((w.setCell ⟨g, 0, none⟩ v0).setCell ⟨g, 1, none⟩ v1).setCell ⟨g, 2, none⟩ v2).setCell ⟨g, 3, none⟩ v3).setCell ⟨g, 4, none⟩ v4).setCell ⟨g, 5, none⟩ v5).setCell ⟨g, 6, none⟩ v6).setCell ⟨g, 7, none⟩ v7).setCell ⟨g, 8, none⟩ v8) g t #[v0, v1, v2, v3, v4, v5, v6, v7, v8]) ∧ Hid (Below B w0 (((((((((w.setCell ⟨g, 0, none⟩ v0).setCell ⟨g, 1, none⟩ v1).setCell ⟨g, 2, none⟩ v2).setCell ⟨g, 3, none⟩ v3).setCell ⟨g, 4, none⟩ v4).setCell ⟨g, 5, none⟩ v5).setCell ⟨g, 6, none⟩ v6).setCell ⟨g, 7, none⟩ v7).setCell ⟨g, 8, none⟩ v8)) ∧ ∀ b u cs, Hid (Own w b u cs) → b ≠ g → Hid (Own (((((((((w.setCell ⟨g, 0, none⟩ v0).setCell ⟨g, 1, none⟩ v1).setCell ⟨g, 2, none⟩ v2).setCell ⟨g, 3, none⟩ v3).setCell ⟨g, 4, none⟩ v4).setCell ⟨g, 5, none⟩ v5).setCell ⟨g, 6, none⟩ v6).setCell ⟨g, 7, none⟩ v7).setCell ⟨g, 8, none⟩ v8) b u cs) := by
 refine ⟨?_, (((((((((hB.out.setCell (p := ⟨g, 0, none⟩) hg v0).setCell (p := ⟨g, 1, none⟩) hg v1).setCell (p := ⟨g, 2, none⟩) hg v2).setCell (p := ⟨g, 3, none⟩) hg v3).setCell (p := ⟨g, 4, none⟩) hg v4).setCell (p := ⟨g, 5, none⟩) hg v5).setCell (p := ⟨g, 6, none⟩) hg v6).setCell (p := ⟨g, 7, none⟩) hg v7).setCell (p := ⟨g, 8, none⟩) hg v8), fun b u cs hb hne => (((((((((hb.out.far (p := ⟨g, 0, none⟩) hne v0).far (p := ⟨g, 1, none⟩) hne v1).far (p := ⟨g, 2, none⟩) hne v2).far (p := ⟨g, 3, none⟩) hne v3).far (p := ⟨g, 4, none⟩) hne v4).far (p := ⟨g, 5, none⟩) hne v5).far (p := ⟨g, 6, none⟩) hne v6).far (p := ⟨g, 7, none⟩) hne v7).far (p := ⟨g, 8, none⟩) hne v8)⟩
 have hx := (((((((((h.out.store 0 v0).store 1 v1).store 2 v2).store 3 v3).store 4 v4).store 5 v5).store 6 v6).store 7 v7).store 8 v8)
 simp only [List.setIfInBounds_toArray, List.set_cons_zero, List.set_cons_succ] at hx
 exact hx
theorem s94 (v0 v1 v2 v3 : Value) (h : Hid (Own w g t #[x0, x1, x2, x3, x4, x5, x6, x7, x8])) (hB : Hid (Below B w0 w)) (hg : B ≤ g := by omega) : Hid (Own ((((w.setCell ⟨g, 0, none⟩ v0).setCell ⟨g, 1, none⟩ v1).setCell ⟨g, 2, none⟩ v2).setCell ⟨g, 3, none⟩ v3) g t #[v0, v1, v2, v3, x4, x5, x6, x7, x8]) ∧ Hid (Below B w0 ((((w.setCell ⟨g, 0, none⟩ v0).setCell ⟨g, 1, none⟩ v1).setCell ⟨g, 2, none⟩ v2).setCell ⟨g, 3, none⟩ v3)) ∧ ∀ b u cs, Hid (Own w b u cs) → b ≠ g → Hid (Own ((((w.setCell ⟨g, 0, none⟩ v0).setCell ⟨g, 1, none⟩ v1).setCell ⟨g, 2, none⟩ v2).setCell ⟨g, 3, none⟩ v3) b u cs) := by
 refine ⟨?_, ((((hB.out.setCell (p := ⟨g, 0, none⟩) hg v0).setCell (p := ⟨g, 1, none⟩) hg v1).setCell (p := ⟨g, 2, none⟩) hg v2).setCell (p := ⟨g, 3, none⟩) hg v3), fun b u cs hb hne => ((((hb.out.far (p := ⟨g, 0, none⟩) hne v0).far (p := ⟨g, 1, none⟩) hne v1).far (p := ⟨g, 2, none⟩) hne v2).far (p := ⟨g, 3, none⟩) hne v3)⟩
 have hx := ((((h.out.store 0 v0).store 1 v1).store 2 v2).store 3 v3)
 simp only [List.setIfInBounds_toArray, List.set_cons_zero, List.set_cons_succ] at hx
 exact hx
theorem s98 (v0 v1 v2 v3 : Value) (h : Hid (Own w g t #[x0, x1, x2, x3, x4, x5, x6, x7, x8])) (hB : Hid (Below B w0 w)) (hg : B ≤ g := by omega) : Hid (Own ((((w.setCell ⟨g, 4, none⟩ v0).setCell ⟨g, 5, none⟩ v1).setCell ⟨g, 6, none⟩ v2).setCell ⟨g, 7, none⟩ v3) g t #[x0, x1, x2, x3, v0, v1, v2, v3, x8]) ∧ Hid (Below B w0 ((((w.setCell ⟨g, 4, none⟩ v0).setCell ⟨g, 5, none⟩ v1).setCell ⟨g, 6, none⟩ v2).setCell ⟨g, 7, none⟩ v3)) ∧ ∀ b u cs, Hid (Own w b u cs) → b ≠ g → Hid (Own ((((w.setCell ⟨g, 4, none⟩ v0).setCell ⟨g, 5, none⟩ v1).setCell ⟨g, 6, none⟩ v2).setCell ⟨g, 7, none⟩ v3) b u cs) := by
 refine ⟨?_, ((((hB.out.setCell (p := ⟨g, 4, none⟩) hg v0).setCell (p := ⟨g, 5, none⟩) hg v1).setCell (p := ⟨g, 6, none⟩) hg v2).setCell (p := ⟨g, 7, none⟩) hg v3), fun b u cs hb hne => ((((hb.out.far (p := ⟨g, 4, none⟩) hne v0).far (p := ⟨g, 5, none⟩) hne v1).far (p := ⟨g, 6, none⟩) hne v2).far (p := ⟨g, 7, none⟩) hne v3)⟩
 have hx := ((((h.out.store 4 v0).store 5 v1).store 6 v2).store 7 v3)
 simp only [List.setIfInBounds_toArray, List.set_cons_zero, List.set_cons_succ] at hx
 exact hx
theorem s7 (v0 v1 v2 v3 v4 v5 v6 : Value) (h : Hid (Own w g t #[x0, x1, x2, x3, x4, x5, x6])) (hB : Hid (Below B w0 w)) (hg : B ≤ g := by omega) : Hid (Own (((((((w.setCell ⟨g, 0, none⟩ v0).setCell ⟨g, 1, none⟩ v1).setCell ⟨g, 2, none⟩ v2).setCell ⟨g, 3, none⟩ v3).setCell ⟨g, 4, none⟩ v4).setCell ⟨g, 5, none⟩ v5).setCell ⟨g, 6, none⟩ v6) g t #[v0, v1, v2, v3, v4, v5, v6]) ∧ Hid (Below B w0 (((((((w.setCell ⟨g, 0, none⟩ v0).setCell ⟨g, 1, none⟩ v1).setCell ⟨g, 2, none⟩ v2).setCell ⟨g, 3, none⟩ v3).setCell ⟨g, 4, none⟩ v4).setCell ⟨g, 5, none⟩ v5).setCell ⟨g, 6, none⟩ v6)) ∧ ∀ b u cs, Hid (Own w b u cs) → b ≠ g → Hid (Own (((((((w.setCell ⟨g, 0, none⟩ v0).setCell ⟨g, 1, none⟩ v1).setCell ⟨g, 2, none⟩ v2).setCell ⟨g, 3, none⟩ v3).setCell ⟨g, 4, none⟩ v4).setCell ⟨g, 5, none⟩ v5).setCell ⟨g, 6, none⟩ v6) b u cs) := by
 refine ⟨?_, (((((((hB.out.setCell (p := ⟨g, 0, none⟩) hg v0).setCell (p := ⟨g, 1, none⟩) hg v1).setCell (p := ⟨g, 2, none⟩) hg v2).setCell (p := ⟨g, 3, none⟩) hg v3).setCell (p := ⟨g, 4, none⟩) hg v4).setCell (p := ⟨g, 5, none⟩) hg v5).setCell (p := ⟨g, 6, none⟩) hg v6), fun b u cs hb hne => (((((((hb.out.far (p := ⟨g, 0, none⟩) hne v0).far (p := ⟨g, 1, none⟩) hne v1).far (p := ⟨g, 2, none⟩) hne v2).far (p := ⟨g, 3, none⟩) hne v3).far (p := ⟨g, 4, none⟩) hne v4).far (p := ⟨g, 5, none⟩) hne v5).far (p := ⟨g, 6, none⟩) hne v6)⟩
 have hx := (((((((h.out.store 0 v0).store 1 v1).store 2 v2).store 3 v3).store 4 v4).store 5 v5).store 6 v6)
 simp only [List.setIfInBounds_toArray, List.set_cons_zero, List.set_cons_succ] at hx
 exact hx
end Go.Proofs.YtdhemhmgenhmaaaGreat
namespace Go.Proofs.YtdhemhmgenhmaaaGreat.Aln
open Go.RowKit
def isB (r a b c d : Int) : Bool :=
 if r = 0 then is0 a b c d
 else if r = 1 then is1 a b c d
 else if r = 2 then is2 a b c d
 else if r = 3 then is3 a b c d
 else if r = 4 then is4 a b c d
 else if r = 5 then is5 a b c d
 else if r = 6 then is6 a b c d
 else if r = 7 then is7 a b c d
 else if r = 8 then is8 a b c d
 else if r = 9 then is9 a b c d
 else if r = 10 then is10 a b c d
 else if r = 11 then is11 a b c d
 else if r = 12 then is12 a b c d
 else false
theorem ris_out (r a b c d : Int) (w : World) (h : r < 0 ∨ 12 < r) :
  Calls Tryz.prog 129 #[.int .i64 r, .agg #[.int .i64 a, .int .i64 b], .agg #[.int .i64 c, .int .i64 d]] w fun e w' => e = .returned (.bool false) ∧ Below w.heap.size w w' := by
 have k0 : (r == 0) = false := beq_eq_false_iff_ne.2 (by omega)
 have k1 : (r == 1) = false := beq_eq_false_iff_ne.2 (by omega)
 have k2 : (r == 2) = false := beq_eq_false_iff_ne.2 (by omega)
 have k3 : (r == 3) = false := beq_eq_false_iff_ne.2 (by omega)
 have k4 : (r == 4) = false := beq_eq_false_iff_ne.2 (by omega)
 have k5 : (r == 5) = false := beq_eq_false_iff_ne.2 (by omega)
 have k6 : (r == 6) = false := beq_eq_false_iff_ne.2 (by omega)
 have k7 : (r == 7) = false := beq_eq_false_iff_ne.2 (by omega)
 have k8 : (r == 8) = false := beq_eq_false_iff_ne.2 (by omega)
 have k9 : (r == 9) = false := beq_eq_false_iff_ne.2 (by omega)
 have k10 : (r == 10) = false := beq_eq_false_iff_ne.2 (by omega)
 have k11 : (r == 11) = false := beq_eq_false_iff_ne.2 (by omega)
 have k12 : (r == 12) = false := beq_eq_false_iff_ne.2 (by omega)
 clear h
 go_enter Tryz.func129, Tryz.ntmps129
 go_wp2
 go_ret
 refine ⟨rfl, ?_⟩
 (repeat' first | (with_reducible first | exact Below.refl _ _ | assumption | refine Below.alloc ?_ ?_ _ | refine Below.drew ?_ | refine Below.setCell ?_ ?_ _ | refine Below.trans ?_ (Below.mono (by assumption) ?_)) | go_size)
theorem ris_any (r a b c d : Int) (w : World) :
  Calls Tryz.prog 129 #[.int .i64 r, .agg #[.int .i64 a, .int .i64 b], .agg #[.int .i64 c, .int .i64 d]] w fun e w' => e = .returned (.bool (isB r a b c d)) ∧ Below w.heap.size w w' := by
 unfold isB
 by_cases h0 : r = 0
 ·rw [if_pos h0]; subst h0; exact ris_0 a b c d w
 rw [if_neg h0]
 by_cases h1 : r = 1
 ·rw [if_pos h1]; subst h1; exact ris_1 a b c d w
 rw [if_neg h1]
 by_cases h2 : r = 2
 ·rw [if_pos h2]; subst h2; exact ris_2 a b c d w
 rw [if_neg h2]
 by_cases h3 : r = 3
 ·rw [if_pos h3]; subst h3; exact ris_3 a b c d w
 rw [if_neg h3]
 by_cases h4 : r = 4
 ·rw [if_pos h4]; subst h4; exact ris_4 a b c d w
 rw [if_neg h4]
 by_cases h5 : r = 5
 ·rw [if_pos h5]; subst h5; exact ris_5 a b c d w
 rw [if_neg h5]
 by_cases h6 : r = 6
 ·rw [if_pos h6]; subst h6; exact ris_6 a b c d w
 rw [if_neg h6]
 by_cases h7 : r = 7
 ·rw [if_pos h7]; subst h7; exact ris_7 a b c d w
 rw [if_neg h7]
 by_cases h8 : r = 8
 ·rw [if_pos h8]; subst h8; exact ris_8 a b c d w
 rw [if_neg h8]
 by_cases h9 : r = 9
 ·rw [if_pos h9]; subst h9; exact ris_9 a b c d w
 rw [if_neg h9]
 by_cases h10 : r = 10
 ·rw [if_pos h10]; subst h10; exact ris_10 a b c d w
 rw [if_neg h10]
 by_cases h11 : r = 11
 ·rw [if_pos h11]; subst h11; exact ris_11 a b c d w
 rw [if_neg h11]
 by_cases h12 : r = 12
 ·rw [if_pos h12]; subst h12; exact ris_12 a b c d w
 rw [if_neg h12]
 exact ris_out r a b c d w (by omega)
theorem rholds_u (r a b c d : Int) (w : World) :
  Calls Tryz.prog 106 #[.int .i64 r, .agg #[.int .i64 a, .int .i64 b], .agg #[.int .i64 c, .int .i64 d]] w fun e w' => e = .returned (.bool (bothV a b c d && isB r a b c d)) ∧ Below w.heap.size w w' := by
 unfold bothV
 cases h1 : vld a b <;> cases h2 : vld c d <;> cases h3 : isB r a b c d
 all_goals
  go_enter Tryz.func106, Tryz.ntmps106
  go_wp2_with (first | (go_at_call 128; refine (rvalid_any _ _ _).mono ?_; rintro e w1 ⟨rfl, hb⟩; obtain ⟨hc, hf⟩ := bcell hb; have hz := hb.size; (try simp only [World.size_alloc] at hz); have hz0 : w.heap.size < w1.heap.size := (by omega); have hz1 : w.heap.size + 1 < w1.heap.size := (by omega)) | (go_at_call 129; refine (ris_any _ _ _ _ _ _).mono ?_; rintro e w1 ⟨rfl, hb⟩; obtain ⟨hc, hf⟩ := bcell hb; have hz := hb.size; (try simp only [World.size_alloc] at hz); have hz0 : w.heap.size < w1.heap.size := (by omega); have hz1 : w.heap.size + 1 < w1.heap.size := (by omega)))
  go_ret
  refine ⟨rfl, ?_⟩
  (repeat' first | (with_reducible first | exact Below.refl _ _ | assumption | refine Below.alloc ?_ ?_ _ | refine Below.drew ?_ | refine Below.setCell ?_ ?_ _ | refine Below.trans ?_ (Below.mono (by assumption) ?_)) | go_size)
theorem vld_le {a b : Int} (h : vld a b = true) : 0 ≤ a ∧ a < b ∧ b ≤ 1099511627776 := by simpa [vld, and_assoc] using h
theorem relV_range (a b c d : Int) : 0 ≤ relV a b c d ∧ relV a b c d ≤ 12 := by
 unfold relV ovAt; (repeat' split) <;> omega
def relW (a b c d : Int) : Int := if b < c then 0 else if b = c then 1 else if d = a then 11 else if d < a then 12 else
 if a < c then (if b < d then 2 else if b = d then 7 else 8) else if a = c then (if b < d then 3 else if b = d then 6 else 9) else (if b < d then 4 else if b = d then 5 else 10)
theorem sgn_lt {a b : Int} (h : a < b) : sgn a b = -1 := by unfold sgn; rw [if_pos h]
theorem sgn_gt {a b : Int} (h : b < a) : sgn a b = 1 := by unfold sgn; rw [if_neg (by omega), if_pos h]
theorem sgn_eq (a : Int) : sgn a a = 0 := by unfold sgn; rw [if_neg (by omega), if_neg (by omega)]
theorem relV_eq (a b c d : Int) : relV a b c d = relW a b c d := by
 unfold relV relW
 have e : ovAt (sgn a c) (sgn b d) = if a < c then (if b < d then 2 else if b = d then 7 else 8) else if a = c then (if b < d then 3 else if b = d then 6 else 9) else (if b < d then 4 else if b = d then 5 else 10) := by
  rcases Int.lt_trichotomy a c with h | h | h <;> rcases Int.lt_trichotomy b d with g | g | g
  ·rw [sgn_lt h, sgn_lt g, if_pos h, if_pos g]; rfl
  ·subst g; rw [sgn_lt h, sgn_eq, if_pos h, if_neg (by omega), if_pos rfl]; rfl
  ·rw [sgn_lt h, sgn_gt g, if_pos h, if_neg (by omega), if_neg (by omega)]; rfl
  ·subst h; rw [sgn_eq, sgn_lt g, if_neg (by omega), if_pos rfl, if_pos g]; rfl
  ·subst h; subst g; rw [sgn_eq, sgn_eq, if_neg (by omega), if_pos rfl, if_neg (by omega), if_pos rfl]; rfl
  ·subst h; rw [sgn_eq, sgn_gt g, if_neg (by omega), if_pos rfl, if_neg (by omega), if_neg (by omega)]; rfl
  ·rw [sgn_gt h, sgn_lt g, if_neg (by omega), if_neg (by omega), if_pos g]; rfl
  ·subst g; rw [sgn_gt h, sgn_eq, if_neg (by omega), if_neg (by omega), if_neg (by omega), if_pos rfl]; rfl
  ·rw [sgn_gt h, sgn_gt g, if_neg (by omega), if_neg (by omega), if_neg (by omega), if_neg (by omega)]; rfl
 rw [e]
theorem isr_0 {a b c d : Int} (_h1 : a < b) (_h2 : c < d) : is0 a b c d = true ↔ relW a b c d = 0 := by
 unfold is0 relW
 simp only [decide_eq_true_eq]
 (repeat' split) <;> omega
theorem isr_1 {a b c d : Int} (_h1 : a < b) (_h2 : c < d) : is1 a b c d = true ↔ relW a b c d = 1 := by
 unfold is1 relW
 simp only [beq_iff_eq]
 (repeat' split) <;> omega
theorem isr_2 {a b c d : Int} (_h1 : a < b) (_h2 : c < d) : is2 a b c d = true ↔ relW a b c d = 2 := by
 unfold is2 relW
 simp only [Bool.and_eq_true, decide_eq_true_eq]
 (repeat' split) <;> omega
theorem isr_3 {a b c d : Int} (_h1 : a < b) (_h2 : c < d) : is3 a b c d = true ↔ relW a b c d = 3 := by
 unfold is3 relW
 simp only [Bool.and_eq_true, decide_eq_true_eq, beq_iff_eq]
 (repeat' split) <;> omega
theorem isr_4 {a b c d : Int} (_h1 : a < b) (_h2 : c < d) : is4 a b c d = true ↔ relW a b c d = 4 := by
 unfold is4 relW
 simp only [Bool.and_eq_true, decide_eq_true_eq]
 (repeat' split) <;> omega
theorem isr_5 {a b c d : Int} (_h1 : a < b) (_h2 : c < d) : is5 a b c d = true ↔ relW a b c d = 5 := by
 unfold is5 relW
 simp only [Bool.and_eq_true, decide_eq_true_eq, beq_iff_eq]
 (repeat' split) <;> omega
theorem isr_6 {a b c d : Int} (_h1 : a < b) (_h2 : c < d) : is6 a b c d = true ↔ relW a b c d = 6 := by
 unfold is6 relW
 simp only [Bool.and_eq_true, beq_iff_eq]
 (repeat' split) <;> omega
theorem isr_7 {a b c d : Int} (_h1 : a < b) (_h2 : c < d) : is7 a b c d = true ↔ relW a b c d = 7 := by
 unfold is7 relW
 simp only [Bool.and_eq_true, decide_eq_true_eq, beq_iff_eq]
 (repeat' split) <;> omega
theorem isr_8 {a b c d : Int} (_h1 : a < b) (_h2 : c < d) : is8 a b c d = true ↔ relW a b c d = 8 := by
 unfold is8 relW
 simp only [Bool.and_eq_true, decide_eq_true_eq]
 (repeat' split) <;> omega
theorem isr_9 {a b c d : Int} (_h1 : a < b) (_h2 : c < d) : is9 a b c d = true ↔ relW a b c d = 9 := by
 unfold is9 relW
 simp only [Bool.and_eq_true, decide_eq_true_eq, beq_iff_eq]
 (repeat' split) <;> omega
theorem isr_10 {a b c d : Int} (_h1 : a < b) (_h2 : c < d) : is10 a b c d = true ↔ relW a b c d = 10 := by
 unfold is10 relW
 simp only [Bool.and_eq_true, decide_eq_true_eq]
 (repeat' split) <;> omega
theorem isr_11 {a b c d : Int} (_h1 : a < b) (_h2 : c < d) : is11 a b c d = true ↔ relW a b c d = 11 := by
 unfold is11 relW
 simp only [beq_iff_eq]
 (repeat' split) <;> omega
theorem isr_12 {a b c d : Int} (_h1 : a < b) (_h2 : c < d) : is12 a b c d = true ↔ relW a b c d = 12 := by
 unfold is12 relW
 simp only [decide_eq_true_eq]
 (repeat' split) <;> omega
theorem isB_rel {a b c d : Int} (h : bothV a b c d = true) (r : Int) : isB r a b c d = (relV a b c d == r) := by
 unfold bothV at h
 rw [Bool.and_eq_true] at h
 have h1 := (vld_le h.1).2.1
 have h2 := (vld_le h.2).2.1
 rw [Bool.eq_iff_iff, beq_iff_eq]
 have hr := relV_range a b c d
 rw [relV_eq] at hr ⊢
 unfold isB
 by_cases g0 : r = 0
 ·rw [if_pos g0]; subst g0; exact isr_0 h1 h2
 rw [if_neg g0]
 by_cases g1 : r = 1
 ·rw [if_pos g1]; subst g1; exact isr_1 h1 h2
 rw [if_neg g1]
 by_cases g2 : r = 2
 ·rw [if_pos g2]; subst g2; exact isr_2 h1 h2
 rw [if_neg g2]
 by_cases g3 : r = 3
 ·rw [if_pos g3]; subst g3; exact isr_3 h1 h2
 rw [if_neg g3]
 by_cases g4 : r = 4
 ·rw [if_pos g4]; subst g4; exact isr_4 h1 h2
 rw [if_neg g4]
 by_cases g5 : r = 5
 ·rw [if_pos g5]; subst g5; exact isr_5 h1 h2
 rw [if_neg g5]
 by_cases g6 : r = 6
 ·rw [if_pos g6]; subst g6; exact isr_6 h1 h2
 rw [if_neg g6]
 by_cases g7 : r = 7
 ·rw [if_pos g7]; subst g7; exact isr_7 h1 h2
 rw [if_neg g7]
 by_cases g8 : r = 8
 ·rw [if_pos g8]; subst g8; exact isr_8 h1 h2
 rw [if_neg g8]
 by_cases g9 : r = 9
 ·rw [if_pos g9]; subst g9; exact isr_9 h1 h2
 rw [if_neg g9]
 by_cases g10 : r = 10
 ·rw [if_pos g10]; subst g10; exact isr_10 h1 h2
 rw [if_neg g10]
 by_cases g11 : r = 11
 ·rw [if_pos g11]; subst g11; exact isr_11 h1 h2
 rw [if_neg g11]
 by_cases g12 : r = 12
 ·rw [if_pos g12]; subst g12; exact isr_12 h1 h2
 rw [if_neg g12]
 constructor
 ·intro e; cases e
 ·intro e; omega
theorem rholds_any (r a b c d : Int) (w : World) :
  Calls Tryz.prog 106 #[.int .i64 r, .agg #[.int .i64 a, .int .i64 b], .agg #[.int .i64 c, .int .i64 d]] w fun e w' => e = .returned (.bool (holdsR r a b c d)) ∧ Below w.heap.size w w' := by
 have e : holdsR r a b c d = (bothV a b c d && isB r a b c d) := by
  unfold holdsR relR
  cases h : bothV a b c d
  ·rfl
  ·rw [isB_rel h]; rfl
 rw [e]; exact rholds_u r a b c d w
end Go.Proofs.YtdhemhmgenhmaaaGreat.Aln
namespace Go.Proofs.YtdhemhmgenhmaaaGreat.Aln
open Go.RowKit
theorem relR_lt (a b c d : Int) : 0 ≤ relR a b c d ∧ relR a b c d < 13 := by
 unfold relR relV ovAt
 repeat' split
 all_goals omega
theorem rrel_any (a b c d : Int) (w : World) :
  Calls Tryz.prog 74 #[.agg #[.int .i64 a, .int .i64 b], .agg #[.int .i64 c, .int .i64 d]] w fun e w' => e = .returned (.tuple #[.int .i64 (relR a b c d), .bool (bothV a b c d)]) ∧ Below w.heap.size w w' := by
 have oP : Own ((w.alloc (.cells #[.int .i64 a, .int .i64 b] 55)).alloc (.cells #[.int .i64 c, .int .i64 d] 55)) w.heap.size 55 #[.int .i64 a, .int .i64 b] := (Own.new w _ _).alloc _
 have oQ : Own ((w.alloc (.cells #[.int .i64 a, .int .i64 b] 55)).alloc (.cells #[.int .i64 c, .int .i64 d] 55)) (w.heap.size + 1) 55 #[.int .i64 c, .int .i64 d] := (by have := Own.new (w.alloc (.cells #[.int .i64 a, .int .i64 b] 55)) 55 #[.int .i64 c, .int .i64 d]; rw [World.size_alloc] at this; exact this)
 have oB : Below w.heap.size w ((w.alloc (.cells #[.int .i64 a, .int .i64 b] 55)).alloc (.cells #[.int .i64 c, .int .i64 d] 55)) := (by (repeat' first | (with_reducible first | exact Below.refl _ _ | assumption | refine Below.alloc ?_ ?_ _ | refine Below.drew ?_ | refine Below.setCell ?_ ?_ _ | refine Below.trans ?_ (Below.mono (by assumption) ?_)) | go_size))
 have lr := relR_lt a b c d
 go_enter Tryz.func74, Tryz.ntmps74
 go_wp2
 generalize (w.alloc (.cells #[.int .i64 a, .int .i64 b] 55)).alloc (.cells #[.int .i64 c, .int .i64 d] 55) = W at *
 go_loopw [6] (fun i wr => ∃ k : Nat, k ≤ 13 ∧ i = .int .i64 k ∧ (bothV a b c d = true → (k : Int) ≤ relR a b c d) ∧ Own wr w.heap.size 55 #[.int .i64 a, .int .i64 b] ∧ Own wr (w.heap.size + 1) 55 #[.int .i64 c, .int .i64 d] ∧ Below w.heap.size w wr) (fun i _ => 13 - (intOf i).toNat)
 case atStart => exact ⟨0, by omega, rfl, fun _ => lr.1, oP, oQ, oB⟩
 case round =>
  obtain ⟨k, hk, rfl, hno, P, Q, hbr⟩ := hrel
  have hbz := hbr.size
  by_cases hlt : k < 13
  ·have p0 := P.cell 0
   have p1 := P.cell 1
   have q0 := Q.cell 0
   have q1 := Q.cell 1
   have HR := rholds_any (k : Int) a b c d
   cases hh : holdsR (k : Int) a b c d
   ·have hno2 : Hid (bothV a b c d = true → ((k + 1 : Nat) : Int) ≤ relR a b c d) := Lib.hid (fun hb => by
     have h1 := hno hb
     unfold holdsR at hh
     rw [hb, Bool.true_and] at hh
     have h2 := beq_eq_false_iff_ne.1 hh
     omega)
    rw [hh] at HR
    clear hno hh
    go_wp2_with (go_at_call 106; refine (HR _).mono ?_; rintro e w1 ⟨rfl, hb1⟩)
    go_roundw
    case rel => exact ⟨k + 1, by omega, by go_num, hno2.out, P.below hb1 P.lt, Q.below hb1 Q.lt, hbr.trans (hb1.mono hbz)⟩
    case measure => simp [intOf]; omega
   ·have hE : Hid ((relR a b c d = (k : Int)) ∧ bothV a b c d = true) := Lib.hid (by
     unfold holdsR at hh
     rw [Bool.and_eq_true] at hh
     exact ⟨beq_iff_eq.1 hh.2, hh.1⟩)
    rw [hh] at HR
    clear hno hh
    go_wp2_with (go_at_call 106; refine (HR _).mono ?_; rintro e w1 ⟨rfl, hb1⟩)
    go_ret2
    exact ⟨by rw [hE.out.1, hE.out.2]; rfl, hbr.trans (hb1.mono hbz)⟩
  ·have hkl : k = 13 := by omega
   subst hkl
   have hE : Hid ((relR a b c d = 0) ∧ bothV a b c d = false) := Lib.hid (by
    have hbv : bothV a b c d = false := by
     cases hb : bothV a b c d
     ·rfl
     ·have := hno hb; omega
    exact ⟨by unfold relR; rw [hbv]; rfl, hbv⟩)
   clear hno
   go_wp2
   go_ret2
   exact ⟨by rw [hE.out.1, hE.out.2]; rfl, hbr⟩
end Go.Proofs.YtdhemhmgenhmaaaGreat.Aln
