import Derived.Test.YtdhemhmgenhmaaaGreatPV
import Derived.Laws.OwnMore
import Derived.WalkKit
import Derived.WalkSpells
import Derived.WalkLawsBesides
import Derived.Deep.QuietTactic
import Derived.BigQuiet
import Derived.Handy
import Derived.Lib.Hide
set_option maxRecDepth 100000
set_option maxHeartbeats 25600000
set_option linter.unusedVariables false
set_option linter.unusedSimpArgs false
/-
  The closure of Conjuncts. Conditions: lengths.
-/
namespace Go.Proofs.YtdhemhmgenhmaaaGreat
open Go.RowKit
theorem flatE_last (ps : List ExU) (q p : ExU) : (((((((flatE (ps ++ [q])).set (ps.length * 7) (.int .i64 p.1.op)).set (ps.length * 7 + 1) (.int .i64 p.1.n)).set (ps.length * 7 + 2) (.int .i64 p.1.v.1)).set (ps.length * 7 + 3) (.int .i64 p.1.v.2.1)).set (ps.length * 7 + 4) (.string p.1.v.2.2)).set (ps.length * 7 + 5) (.string p.1.nm)).set (ps.length * 7 + 6) p.2 = flatE (ps ++ [p]) := by
 rw [flatE_append, flatE_append]
 exact set7 (flatE ps) _ _ _ _ _ _ _ (.int .i64 p.1.op) (.int .i64 p.1.n) (.int .i64 p.1.v.1) (.int .i64 p.1.v.2.1) (.string p.1.v.2.2) (.string p.1.nm) p.2 [] (ps.length * 7) (flatE_len ps)
theorem own_last {w : World} {base g n cap : Nat} {ps : List ExU} {q : ExU} (h : w.ownsRow base 26 7 (.slice (some ⟨g, 0, none⟩) n cap) n (flatE (ps ++ [q]))) (p : ExU) :
  (((((((w.setCell ⟨g, ps.length * 7, none⟩ (.int .i64 p.1.op)).setCell ⟨g, ps.length * 7 + 1, none⟩ (.int .i64 p.1.n)).setCell ⟨g, ps.length * 7 + 2, none⟩ (.int .i64 p.1.v.1)).setCell ⟨g, ps.length * 7 + 3, none⟩ (.int .i64 p.1.v.2.1)).setCell ⟨g, ps.length * 7 + 4, none⟩ (.string p.1.v.2.2)).setCell ⟨g, ps.length * 7 + 5, none⟩ (.string p.1.nm)).setCell ⟨g, ps.length * 7 + 6, none⟩ p.2).ownsRow base 26 7 (.slice (some ⟨g, 0, none⟩) n cap) n (flatE (ps ++ [p])) := by
 rw [← flatE_last ps q p]
 exact (World.ownsRow.stored (World.ownsRow.stored (World.ownsRow.stored (World.ownsRow.stored (World.ownsRow.stored (World.ownsRow.stored (World.ownsRow.stored h _ _).1 _ _).1 _ _).1 _ _).1 _ _).1 _ _).1 _ _).1
theorem RdE.farG {w : World} {L B : Nat} {p : Addr} {v : Value} (hp : p.block < L ∨ B ≤ p.block) : ∀ {d : Nat} {u : Value} {es : List Ex}, RdE w L B d u es → RdE (w.setCell p v) L B d u es
 | 0, _, _, h => h
 | d + 1, u, es, ⟨A, c, hv, hl, hc⟩ => ⟨A, c, hv, hl, fun k e hk => by
   obtain ⟨ad, x, h1, h2, h3, h4, h5⟩ := hc k e hk
   have hne : ∀ i, p.block ≠ (⟨(ad.add (k * 7)).block, (ad.add (k * 7)).off + i, none⟩ : Addr).block := fun i => by show p.block ≠ (ad.add (k * 7)).block; rw [add_blk]; omega
   obtain ⟨q0, q1, q2, q3, q4, q5, q6⟩ := h4
   exact ⟨ad, x, h1, h2, h3, ⟨(World.cell?_setCell_far w p (ad.add (k * 7)) v (by rw [add_blk]; omega)).trans q0, (World.cell?_setCell_far _ p _ _ (hne 1)).trans q1, (World.cell?_setCell_far _ p _ _ (hne 2)).trans q2, (World.cell?_setCell_far _ p _ _ (hne 3)).trans q3, (World.cell?_setCell_far _ p _ _ (hne 4)).trans q4, (World.cell?_setCell_far _ p _ _ (hne 5)).trans q5, (World.cell?_setCell_far _ p _ _ (hne 6)).trans q6⟩, RdE.farG hp h5⟩⟩
theorem KidsX.own {w : World} {base d g n c : Nat} {ps : List ExU} (h : KidsX w base (.slice (some ⟨g, 0, none⟩) n c) d ps) (j : Nat) (u : Value) : KidsX (w.setCell ⟨g, j, none⟩ u) base (.slice (some ⟨g, 0, none⟩) n c) d ps := fun p hp => by
 obtain ⟨Lp, Bp, h1, h2, h3, h4⟩ := h p hp
 exact ⟨Lp, Bp, h1.farG (p := ⟨g, j, none⟩) (h4 g rfl), by rw [World.size_setCell]; exact h2, h3, h4⟩
theorem cell_last {w : World} {base g cap : Nat} {ps : List ExU} {q : ExU} {v : Value} (h : w.ownsRow base 26 7 (.slice (some ⟨g, 0, none⟩) (ps.length + 1) cap) (ps.length + 1) (flatE (ps ++ [q]))) (j : Nat) (hj : j < 7) (hv : (exL q)[j]? = some v) : w.cell? ⟨g, ps.length * 7 + j, none⟩ = some v := by
 have h1 := World.ownsRow.cellAt h (ps.length * 7 + j) (by omega)
 rw [h1, flatE_get _ ps.length q (by simp) j hj]
 exact hv
theorem cell_last0 {w : World} {base g cap : Nat} {ps : List ExU} {q : ExU} {v : Value} (h : w.ownsRow base 26 7 (.slice (some ⟨g, 0, none⟩) (ps.length + 1) cap) (ps.length + 1) (flatE (ps ++ [q]))) (hv : (exL q)[0]? = some v) : w.cell? ⟨g, ps.length * 7, none⟩ = some v := cell_last h 0 (by decide) hv
def RowC (w : World) (g base d : Nat) (zs : List Ex) : Prop :=
 ∃ (v : Value) (ps : List ExU), ps.map (·.1) = zs ∧ Own w g 24 #[v] ∧ w.ownsRow base 26 7 v ps.length (flatE ps) ∧ KidsX w base v d ps
theorem cj_doneA {w6 W : World} {g base g6 cap d : Nat} {ps : List ExU} {q : ExU} {v : Value} (op n k1 k2 : Int) (s nm : ByteArray) (es : List Ex) (A4 : Option Addr) (c4 : Nat) (HG : Own w6 g 24 #[v]) (HR : w6.ownsRow base 26 7 (.slice (some ⟨g6, 0, none⟩) (ps.length + 1) cap) (ps.length + 1) (flatE (ps ++ [q]))) (HK : KidsX w6 base (.slice (some ⟨g6, 0, none⟩) (ps.length + 1) cap) d (ps ++ [((⟨op, n, (k1, k2, s), nm, es⟩, .slice A4 es.length c4) : ExU)])) (HB : Below g W w6) (hgb : g < base) (hb6 : base ≤ g6) :
  RowC ((((((((w6.setCell ⟨g6, ps.length * 7, none⟩ (.int .i64 op)).setCell ⟨g6, ps.length * 7 + 1, none⟩ (.int .i64 n)).setCell ⟨g6, ps.length * 7 + 2, none⟩ (.int .i64 k1)).setCell ⟨g6, ps.length * 7 + 3, none⟩ (.int .i64 k2)).setCell ⟨g6, ps.length * 7 + 4, none⟩ (.string s)).setCell ⟨g6, ps.length * 7 + 5, none⟩ (.string nm)).setCell ⟨g6, ps.length * 7 + 6, none⟩ (.slice A4 es.length c4)).setCell ⟨g, 0, none⟩ (.slice (some ⟨g6, 0, none⟩) (ps.length + 1) cap)) g base d ((ps ++ [((⟨op, n, (k1, k2, s), nm, es⟩, .slice A4 es.length c4) : ExU)]).map (·.1)) ∧ Below g W ((((((((w6.setCell ⟨g6, ps.length * 7, none⟩ (.int .i64 op)).setCell ⟨g6, ps.length * 7 + 1, none⟩ (.int .i64 n)).setCell ⟨g6, ps.length * 7 + 2, none⟩ (.int .i64 k1)).setCell ⟨g6, ps.length * 7 + 3, none⟩ (.int .i64 k2)).setCell ⟨g6, ps.length * 7 + 4, none⟩ (.string s)).setCell ⟨g6, ps.length * 7 + 5, none⟩ (.string nm)).setCell ⟨g6, ps.length * 7 + 6, none⟩ (.slice A4 es.length c4)).setCell ⟨g, 0, none⟩ (.slice (some ⟨g6, 0, none⟩) (ps.length + 1) cap)) := by
 refine ⟨⟨(.slice (some ⟨g6, 0, none⟩) (ps.length + 1) cap), ps ++ [((⟨op, n, (k1, k2, s), nm, es⟩, .slice A4 es.length c4) : ExU)], rfl, (((((((HG.far (p := ⟨g6, ps.length * 7, none⟩) (by show g ≠ g6; omega) _).far (p := ⟨g6, ps.length * 7 + 1, none⟩) (by show g ≠ g6; omega) _).far (p := ⟨g6, ps.length * 7 + 2, none⟩) (by show g ≠ g6; omega) _).far (p := ⟨g6, ps.length * 7 + 3, none⟩) (by show g ≠ g6; omega) _).far (p := ⟨g6, ps.length * 7 + 4, none⟩) (by show g ≠ g6; omega) _).far (p := ⟨g6, ps.length * 7 + 5, none⟩) (by show g ≠ g6; omega) _).far (p := ⟨g6, ps.length * 7 + 6, none⟩) (by show g ≠ g6; omega) _).store 0 _, ?_, ((((((((HK.own _ _).own _ _).own _ _).own _ _).own _ _).own _ _).own _ _)).far (p := ⟨g, 0, none⟩) hgb _⟩, (((((((HB.sc g6 (ps.length * 7) _).sc g6 (ps.length * 7 + 1) _).sc g6 (ps.length * 7 + 2) _).sc g6 (ps.length * 7 + 3) _).sc g6 (ps.length * 7 + 4) _).sc g6 (ps.length * 7 + 5) _).sc g6 (ps.length * 7 + 6) _).sc g 0 _⟩
 rw [List.length_append]
 exact own_farX (own_last HR ((⟨op, n, (k1, k2, s), nm, es⟩, .slice A4 es.length c4) : ExU)) (p := ⟨g, 0, none⟩) hgb _
theorem cj_doneB {w6 W : World} {g base g6 cap d : Nat} {ps : List ExU} {q : ExU} {v : Value} (op n k1 k2 : Int) (s nm : ByteArray) (es : List Ex) (A4 : Option Addr) (c4 : Nat) (HG : Own w6 g 24 #[v]) (HR : w6.ownsRow base 26 7 (.slice (some ⟨g6, 0, none⟩) (ps.length + 1) cap) (ps.length + 1) (flatE (ps ++ [q]))) (HK : KidsX w6 base (.slice (some ⟨g6, 0, none⟩) (ps.length + 1) cap) d (ps ++ [((⟨op, n, (k1, k2, s), nm, es⟩, .slice A4 es.length c4) : ExU)])) (HB : Below g W w6) (hgb : g < base) (hb6 : base ≤ g6) :
  RowC ((((((((w6.setCell ⟨g, 0, none⟩ (.slice (some ⟨g6, 0, none⟩) (ps.length + 1) cap)).setCell ⟨g6, ps.length * 7, none⟩ (.int .i64 op)).setCell ⟨g6, ps.length * 7 + 1, none⟩ (.int .i64 n)).setCell ⟨g6, ps.length * 7 + 2, none⟩ (.int .i64 k1)).setCell ⟨g6, ps.length * 7 + 3, none⟩ (.int .i64 k2)).setCell ⟨g6, ps.length * 7 + 4, none⟩ (.string s)).setCell ⟨g6, ps.length * 7 + 5, none⟩ (.string nm)).setCell ⟨g6, ps.length * 7 + 6, none⟩ (.slice A4 es.length c4)) g base d ((ps ++ [((⟨op, n, (k1, k2, s), nm, es⟩, .slice A4 es.length c4) : ExU)]).map (·.1)) ∧ Below g W ((((((((w6.setCell ⟨g, 0, none⟩ (.slice (some ⟨g6, 0, none⟩) (ps.length + 1) cap)).setCell ⟨g6, ps.length * 7, none⟩ (.int .i64 op)).setCell ⟨g6, ps.length * 7 + 1, none⟩ (.int .i64 n)).setCell ⟨g6, ps.length * 7 + 2, none⟩ (.int .i64 k1)).setCell ⟨g6, ps.length * 7 + 3, none⟩ (.int .i64 k2)).setCell ⟨g6, ps.length * 7 + 4, none⟩ (.string s)).setCell ⟨g6, ps.length * 7 + 5, none⟩ (.string nm)).setCell ⟨g6, ps.length * 7 + 6, none⟩ (.slice A4 es.length c4)) := by
 refine ⟨⟨(.slice (some ⟨g6, 0, none⟩) (ps.length + 1) cap), ps ++ [((⟨op, n, (k1, k2, s), nm, es⟩, .slice A4 es.length c4) : ExU)], rfl, ((((((((HG.store 0 (.slice (some ⟨g6, 0, none⟩) (ps.length + 1) cap)).far (p := ⟨g6, ps.length * 7, none⟩) (by show g ≠ g6; omega) _).far (p := ⟨g6, ps.length * 7 + 1, none⟩) (by show g ≠ g6; omega) _).far (p := ⟨g6, ps.length * 7 + 2, none⟩) (by show g ≠ g6; omega) _).far (p := ⟨g6, ps.length * 7 + 3, none⟩) (by show g ≠ g6; omega) _).far (p := ⟨g6, ps.length * 7 + 4, none⟩) (by show g ≠ g6; omega) _).far (p := ⟨g6, ps.length * 7 + 5, none⟩) (by show g ≠ g6; omega) _).far (p := ⟨g6, ps.length * 7 + 6, none⟩) (by show g ≠ g6; omega) _), ?_, ((((((((HK.far (p := ⟨g, 0, none⟩) hgb (.slice (some ⟨g6, 0, none⟩) (ps.length + 1) cap)).own _ _).own _ _).own _ _).own _ _).own _ _).own _ _).own _ _)⟩, ((((((((HB.sc g 0 (.slice (some ⟨g6, 0, none⟩) (ps.length + 1) cap)).sc g6 (ps.length * 7) _).sc g6 (ps.length * 7 + 1) _).sc g6 (ps.length * 7 + 2) _).sc g6 (ps.length * 7 + 3) _).sc g6 (ps.length * 7 + 4) _).sc g6 (ps.length * 7 + 5) _).sc g6 (ps.length * 7 + 6) _)⟩
 rw [List.length_append]
 exact own_last (own_farX HR (p := ⟨g, 0, none⟩) hgb _) ((⟨op, n, (k1, k2, s), nm, es⟩, .slice A4 es.length c4) : ExU)
theorem pCj1_any (d : Nat) (e : Ex) (u : Value) (g base L : Nat) (zs : List Ex) (W : World) (hu : RdE W L W.heap.size d u e.args) (hR : RowC W g base (d + 1) zs) (hgb : g < base) (hbz : base ≤ W.heap.size) (hl : zs.length ≤ 1099511627776) :
  Calls Tryz.prog 83 #[exV e u, .pointer (some ⟨g, 0, none⟩)] W fun e' w' => e' = .returned (.tuple #[]) ∧ RowC w' g base (d + 1) (zs ++ [e]) ∧ Below g W w' := by
 obtain ⟨A, c, rfl, hel⟩ := hu.slice
 obtain ⟨v, ps, rfl, hg, hown, hk⟩ := hR
 rw [List.length_map] at hl
 have HCLO := Lib.hid (fun (W' : World) (hb : Below W.heap.size W W') => show Calls Tryz.prog 84 #[exV e (.slice A e.args.length c)] W' (fun e' w' => ∃ A4 c4, e' = .returned (exV e (.slice A4 e.args.length c4)) ∧ RdE w' W'.heap.size w'.heap.size (d + 1) (.slice A4 e.args.length c4) e.args ∧ Below W'.heap.size W' w') from (pClo_any d e _ W' L (hu.step hb (Nat.le_refl _))).mono fun e' w' h => by
  obtain ⟨u4, h1, h2, h3⟩ := h
  obtain ⟨A4, c4, rfl, _⟩ := h2.slice
  exact ⟨A4, c4, h1, h2, h3⟩)
 obtain ⟨op, n, ⟨k1, k2, s⟩, nm, es⟩ := e
 obtain ⟨Av, cv, rfl⟩ := ownX_shape hown
 unfold exV at *
 dsimp only at *
 have hge := Lib.hid (ownX_ge hown)
 have hlt := Lib.hid (ownX_lt hown)
 have hb1 := bel_mk W (.cells #[.int .i64 op, .int .i64 n, .int .i64 k1, .int .i64 k2, .string s, .string nm, .slice A es.length c] 26)
 have hbd : Below W.heap.size W (W.alloc (.cells #[.int .i64 op, .int .i64 n, .int .i64 k1, .int .i64 k2, .string s, .string nm, .slice A es.length c] 26)).drew := hb1.drew
 have HBD := Lib.hid hbd
 have HE1 := Lib.hid (show Own (W.alloc (.cells #[.int .i64 op, .int .i64 n, .int .i64 k1, .int .i64 k2, .string s, .string nm, .slice A es.length c] 26)).drew W.heap.size 26 #[.int .i64 op, .int .i64 n, .int .i64 k1, .int .i64 k2, .string s, .string nm, .slice A es.length c] from Own.new W _ _)
 have HG1 := Lib.hid (hg.below hbd hg.lt)
 have HR1 := Lib.hid (own_below hown hbd)
 have HK1 := Lib.hid (hk.below hbd)
 have hbz2 := bel_mk (W.alloc (.cells #[.int .i64 op, .int .i64 n, .int .i64 k1, .int .i64 k2, .string s, .string nm, .slice A es.length c] 26)) (.cells #[.int .i64 0, .int .i64 0, .int .i64 0, .int .i64 0, .string ⟨#[]⟩, .string ⟨#[]⟩, .slice none 0 0] 26)
 have hbz3 : Below (W.alloc (.cells #[.int .i64 op, .int .i64 n, .int .i64 k1, .int .i64 k2, .string s, .string nm, .slice A es.length c] 26)).heap.size (W.alloc (.cells #[.int .i64 op, .int .i64 n, .int .i64 k1, .int .i64 k2, .string s, .string nm, .slice A es.length c] 26)) ((W.alloc (.cells #[.int .i64 op, .int .i64 n, .int .i64 k1, .int .i64 k2, .string s, .string nm, .slice A es.length c] 26)).alloc (.cells #[.int .i64 0, .int .i64 0, .int .i64 0, .int .i64 0, .string ⟨#[]⟩, .string ⟨#[]⟩, .slice none 0 0] 26)).drew := hbz2.drew
 have HBZ := Lib.hid (show Below W.heap.size W ((W.alloc (.cells #[.int .i64 op, .int .i64 n, .int .i64 k1, .int .i64 k2, .string s, .string nm, .slice A es.length c] 26)).alloc (.cells #[.int .i64 0, .int .i64 0, .int .i64 0, .int .i64 0, .string ⟨#[]⟩, .string ⟨#[]⟩, .slice none 0 0] 26)).drew from (hb1.trans (hbz2.mono hb1.size)).drew)
 have HGZ := Lib.hid (show Own ((W.alloc (.cells #[.int .i64 op, .int .i64 n, .int .i64 k1, .int .i64 k2, .string s, .string nm, .slice A es.length c] 26)).alloc (.cells #[.int .i64 0, .int .i64 0, .int .i64 0, .int .i64 0, .string ⟨#[]⟩, .string ⟨#[]⟩, .slice none 0 0] 26)).drew g 24 #[.slice Av ps.length cv] from (hg.alloc _).alloc _)
 have HRZ := Lib.hid (show ((W.alloc (.cells #[.int .i64 op, .int .i64 n, .int .i64 k1, .int .i64 k2, .string s, .string nm, .slice A es.length c] 26)).alloc (.cells #[.int .i64 0, .int .i64 0, .int .i64 0, .int .i64 0, .string ⟨#[]⟩, .string ⟨#[]⟩, .slice none 0 0] 26)).drew.ownsRow base 26 7 (.slice Av ps.length cv) ps.length (flatE ps) from own_below (own_below hown hb1) hbz3)
 have HKZ := Lib.hid (show KidsX ((W.alloc (.cells #[.int .i64 op, .int .i64 n, .int .i64 k1, .int .i64 k2, .string s, .string nm, .slice A es.length c] 26)).alloc (.cells #[.int .i64 0, .int .i64 0, .int .i64 0, .int .i64 0, .string ⟨#[]⟩, .string ⟨#[]⟩, .slice none 0 0] 26)).drew base (.slice Av ps.length cv) (d + 1) ps from (hk.below hb1).below hbz3)
 have HZZ := Lib.hid (show Own ((W.alloc (.cells #[.int .i64 op, .int .i64 n, .int .i64 k1, .int .i64 k2, .string s, .string nm, .slice A es.length c] 26)).alloc (.cells #[.int .i64 0, .int .i64 0, .int .i64 0, .int .i64 0, .string ⟨#[]⟩, .string ⟨#[]⟩, .slice none 0 0] 26)).drew (W.heap.size + 1) 26 #[.int .i64 0, .int .i64 0, .int .i64 0, .int .i64 0, .string ⟨#[]⟩, .string ⟨#[]⟩, .slice none 0 0] from Va.own_two _)
 have hgl := hg.lt
 have hix : (ps.length : Int) < (ps.length : Int) + 1 := by omega
 have hgc := hg.cell 0
 have e0 := HE1.out.cell 0
 have e1 := HE1.out.cell 1
 have e2 := HE1.out.cell 2
 have e3 := HE1.out.cell 3
 have e4 := HE1.out.cell 4
 have e5 := HE1.out.cell 5
 have e6 := HE1.out.cell 6
 clear hu hown hg hk hb1 hbz2 hbd
 go_enter Tryz.func83, Tryz.ntmps83
 go_wp2_with fail
 go_region_law (first
  | (go_simp; go_at_call 84; with_reducible refine (HCLO.out _ HBD.out).mono ?_; rintro e' w4 ⟨A4, c4, rfl, hr4, hb4⟩; have HG4 := Lib.hid (HG1.out.below hb4 HG1.out.lt); have HR4 := Lib.hid (own_below HR1.out hb4); have HK4 := Lib.hid ((HK1.out.below hb4).snoc (KidsX.one (p := (⟨op, n, (k1, k2, s), nm, es⟩, .slice A4 es.length c4)) hr4 (Nat.le_trans hbz HBD.out.size) (ownX_lt HR1.out))); have HB4 := Lib.hid (HBD.out.trans (hb4.mono HBD.out.size)); have cg4 := HG4.out.cell 0; have lg4 := HG4.out.lt; clear hr4 hb4)
  | (go_simp; go_at_call 84; with_reducible refine (HCLO.out _ HBZ.out).mono ?_; rintro e' w4 ⟨A4, c4, rfl, hr4, hb4⟩; have HG4 := Lib.hid (HGZ.out.below hb4 HGZ.out.lt); have HR4 := Lib.hid (own_below HRZ.out hb4); have HZ4 := Lib.hid (HZZ.out.below hb4 HZZ.out.lt); have HK4 := Lib.hid ((HKZ.out.below hb4).snoc (KidsX.one (p := (⟨op, n, (k1, k2, s), nm, es⟩, .slice A4 es.length c4)) hr4 (Nat.le_trans hbz HBZ.out.size) (ownX_lt HRZ.out))); have HB4 := Lib.hid (HBZ.out.trans (hb4.mono HBZ.out.size)); have cg4 := HG4.out.cell 0; have lg4 := HG4.out.lt; clear hr4 hb4)
  | (refine step_append_ex _ rfl _ _ rfl base (.slice Av ps.length cv) ps rfl (own_below HR4.out (bel_mk _ (.cells #[.int .i64 0, .int .i64 0, .int .i64 0, .int .i64 0, .string ⟨#[]⟩, .string ⟨#[]⟩, .slice none 0 0] 26))) w4.heap.size _ zX ⟨_, _, _, rfl⟩ rfl (lit_ex w4 zX) (by omega) (Nat.le_trans hbz (Nat.le_trans HB4.out.size (bel_mk _ _).size)) ?_; intro g6 cap6 w6 hr6 hg6 hv6 hl6; replace hr6 : w6.ownsRow base 26 7 (.slice (some ⟨g6, 0, none⟩) (ps.length + 1) cap6) (ps.length + 1) (flatE (ps ++ [zX])) := (by rw [List.length_append] at hr6; exact hr6); have HG6 := Lib.hid ((HG4.out.alloc (.cells #[.int .i64 0, .int .i64 0, .int .i64 0, .int .i64 0, .string ⟨#[]⟩, .string ⟨#[]⟩, .slice none 0 0] 26)).grownX hg6 (fun b hb => by have := hge.out b hb; omega)); have HR6 := Lib.hid hr6; have HK6 := Lib.hid ((HK4.out.below (bel_mk _ (.cells #[.int .i64 0, .int .i64 0, .int .i64 0, .int .i64 0, .string ⟨#[]⟩, .string ⟨#[]⟩, .slice none 0 0] 26))).grown (n := ps.length + 1) (c := cap6) hg6 hv6); have HB6 := Lib.hid (((HB4.out.trans ((bel_mk w4 (.cells #[.int .i64 0, .int .i64 0, .int .i64 0, .int .i64 0, .string ⟨#[]⟩, .string ⟨#[]⟩, .slice none 0 0] 26)).mono HB4.out.size)).mono (Nat.le_of_lt hgl)).grown hg6 (Nat.le_trans (Nat.le_of_lt hgl) (Nat.le_trans HB4.out.size (bel_mk _ _).size)) (fun b hb => by have := hge.out b hb; omega)); have z0 : w6.cell? ⟨g6, ps.length * 7, none⟩ = some (.int .i64 0) := cell_last0 hr6 rfl; have f0 : w6.frozen? ⟨g6, ps.length * 7, none⟩ = false := World.ownsRow.frozenAt hr6 _; have z1 : w6.cell? ⟨g6, ps.length * 7 + 1, none⟩ = some (.int .i64 0) := cell_last hr6 1 (by decide) rfl; have f1 : w6.frozen? ⟨g6, ps.length * 7 + 1, none⟩ = false := World.ownsRow.frozenAt hr6 _; have z2 : w6.cell? ⟨g6, ps.length * 7 + 2, none⟩ = some (.int .i64 0) := cell_last hr6 2 (by decide) rfl; have f2 : w6.frozen? ⟨g6, ps.length * 7 + 2, none⟩ = false := World.ownsRow.frozenAt hr6 _; have z3 : w6.cell? ⟨g6, ps.length * 7 + 3, none⟩ = some (.int .i64 0) := cell_last hr6 3 (by decide) rfl; have f3 : w6.frozen? ⟨g6, ps.length * 7 + 3, none⟩ = false := World.ownsRow.frozenAt hr6 _; have z4 : w6.cell? ⟨g6, ps.length * 7 + 4, none⟩ = some (.string ⟨#[]⟩) := cell_last hr6 4 (by decide) rfl; have f4 : w6.frozen? ⟨g6, ps.length * 7 + 4, none⟩ = false := World.ownsRow.frozenAt hr6 _; have z5 : w6.cell? ⟨g6, ps.length * 7 + 5, none⟩ = some (.string ⟨#[]⟩) := cell_last hr6 5 (by decide) rfl; have f5 : w6.frozen? ⟨g6, ps.length * 7 + 5, none⟩ = false := World.ownsRow.frozenAt hr6 _; have z6 : w6.cell? ⟨g6, ps.length * 7 + 6, none⟩ = some (.slice none 0 0) := cell_last hr6 6 (by decide) rfl; have f6 : w6.frozen? ⟨g6, ps.length * 7 + 6, none⟩ = false := World.ownsRow.frozenAt hr6 _; have cg := HG6.out.cell 0; have fg := HG6.out.free 0; have hgb6 := (hr6.lt g6 rfl).1; have hne6 : g6 ≠ g := (by omega); have hne7 : g ≠ g6 := (by omega); clear hr6 hg6 hv6)
  | (refine step_append_ex _ rfl _ _ rfl base (.slice Av ps.length cv) ps rfl HR4.out (W.heap.size + 1) _ zX ⟨_, _, _, rfl⟩ rfl (fun j u hu => by rw [addX, HZ4.out.cell j, ← hu]; exact List.getElem?_toArray ..) (by omega) (Nat.le_trans hbz HB4.out.size) ?_; intro g6 cap6 w6 hr6 hg6 hv6 hl6; replace hr6 : w6.ownsRow base 26 7 (.slice (some ⟨g6, 0, none⟩) (ps.length + 1) cap6) (ps.length + 1) (flatE (ps ++ [zX])) := (by rw [List.length_append] at hr6; exact hr6); have HG6 := Lib.hid (HG4.out.grownX hg6 (fun b hb => by have := hge.out b hb; omega)); have HR6 := Lib.hid hr6; have HK6 := Lib.hid (HK4.out.grown (n := ps.length + 1) (c := cap6) hg6 hv6); have HB6 := Lib.hid ((HB4.out.mono (Nat.le_of_lt hgl)).grown hg6 (Nat.le_trans (Nat.le_of_lt hgl) HB4.out.size) (fun b hb => by have := hge.out b hb; omega)); have z0 : w6.cell? ⟨g6, ps.length * 7, none⟩ = some (.int .i64 0) := cell_last0 hr6 rfl; have f0 : w6.frozen? ⟨g6, ps.length * 7, none⟩ = false := World.ownsRow.frozenAt hr6 _; have z1 : w6.cell? ⟨g6, ps.length * 7 + 1, none⟩ = some (.int .i64 0) := cell_last hr6 1 (by decide) rfl; have f1 : w6.frozen? ⟨g6, ps.length * 7 + 1, none⟩ = false := World.ownsRow.frozenAt hr6 _; have z2 : w6.cell? ⟨g6, ps.length * 7 + 2, none⟩ = some (.int .i64 0) := cell_last hr6 2 (by decide) rfl; have f2 : w6.frozen? ⟨g6, ps.length * 7 + 2, none⟩ = false := World.ownsRow.frozenAt hr6 _; have z3 : w6.cell? ⟨g6, ps.length * 7 + 3, none⟩ = some (.int .i64 0) := cell_last hr6 3 (by decide) rfl; have f3 : w6.frozen? ⟨g6, ps.length * 7 + 3, none⟩ = false := World.ownsRow.frozenAt hr6 _; have z4 : w6.cell? ⟨g6, ps.length * 7 + 4, none⟩ = some (.string ⟨#[]⟩) := cell_last hr6 4 (by decide) rfl; have f4 : w6.frozen? ⟨g6, ps.length * 7 + 4, none⟩ = false := World.ownsRow.frozenAt hr6 _; have z5 : w6.cell? ⟨g6, ps.length * 7 + 5, none⟩ = some (.string ⟨#[]⟩) := cell_last hr6 5 (by decide) rfl; have f5 : w6.frozen? ⟨g6, ps.length * 7 + 5, none⟩ = false := World.ownsRow.frozenAt hr6 _; have z6 : w6.cell? ⟨g6, ps.length * 7 + 6, none⟩ = some (.slice none 0 0) := cell_last hr6 6 (by decide) rfl; have f6 : w6.frozen? ⟨g6, ps.length * 7 + 6, none⟩ = false := World.ownsRow.frozenAt hr6 _; have cg := HG6.out.cell 0; have fg := HG6.out.free 0; have hgb6 := (hr6.lt g6 rfl).1; have hne6 : g6 ≠ g := (by omega); have hne7 : g ≠ g6 := (by omega); clear hr6 hg6 hv6))
 all_goals
  go_end0
  refine ⟨rfl, ?_⟩
  have hz := show ps.map (·.1) ++ [(⟨op, n, (k1, k2, s), nm, es⟩ : Ex)] = (ps ++ [((⟨op, n, (k1, k2, s), nm, es⟩, .slice A4 es.length c4) : ExU)]).map (·.1) from by rw [List.map_append]; rfl
  rw [hz]
  first
   | with_reducible exact cj_doneA op n k1 k2 s nm es A4 c4 HG6.out HR6.out HK6.out HB6.out hgb hgb6
   | with_reducible exact cj_doneB op n k1 k2 s nm es A4 c4 HG6.out HR6.out HK6.out HB6.out hgb hgb6
theorem own_two2C (W : World) (g : Nat) (hg : W.heap.size = g) (v : Value) : Own (W.alloc (.cells #[v] 24)) g 24 #[v] := by
 subst hg
 exact Own.new W _ _
theorem pConj_any (d : Nat) (e : Ex) (u : Value) (w : World) (L : Nat) (h : RdE w L w.heap.size d u e.args) (hl : (conjE d e).length ≤ 1099511627776) :
  Calls Tryz.prog 42 #[exV e u] w fun e' w' => ∃ v, e' = .returned v ∧ RdE w' w.heap.size w'.heap.size (d + 2) v (conjE d e) ∧ Below w.heap.size w w' := by
 obtain ⟨A, c, rfl, _⟩ := h.slice
 have b1 := bel_mk w (.cells (exA e (.slice A e.args.length c)) 26)
 have b2 := bel_mk (w.alloc (.cells (exA e (.slice A e.args.length c)) 26)) (.cells #[.slice none 0 0] 24)
 have HB := Lib.hid (b1.trans (b2.mono b1.size))
 have HE := Lib.hid ((Own.new w 26 (exA e (.slice A e.args.length c))).alloc (.cells #[.slice none 0 0] 24))
 have HG := Lib.hid (own_two2C (w.alloc (.cells (exA e (.slice A e.args.length c)) 26)) (w.heap.size + 1) (by rw [World.size_alloc]) (.slice none 0 0))
 have HV := Lib.hid (pVisP_any 83 #[.pointer (some ⟨w.heap.size + 1, 0, none⟩)]
  (fun zs W => RowC W (w.heap.size + 1) (w.heap.size + 2) (d + 1) zs ∧ Below (w.heap.size + 1) ((w.alloc (.cells (exA e (.slice A e.args.length c)) 26)).alloc (.cells #[.slice none 0 0] 24)) W)
  ((w.alloc (.cells (exA e (.slice A e.args.length c)) 26)).alloc (.cells #[.slice none 0 0] 24)) (w.heap.size + 1) L d (conjE d e) (by simp) (fun _ _ => rfl) (fun zs W h => h.2)
  (fun zs W W' ⟨⟨v, ps, h1, h2, h3, h4⟩, hb⟩ hb2 => ⟨⟨v, ps, h1, h2.below hb2 h2.lt, own_below h3 hb2, h4.below hb2⟩, hb.trans (hb2.mono (by have := hb.size; simp at this; omega))⟩)
  (fun zs c2 u2 d2 W hd ⟨hR, hb⟩ ⟨t, hT⟩ hr => by
   have hs := hb.size
   have hz2 : (w.alloc (.cells (exA e (.slice A e.args.length c)) 26)).heap.size + 1 ≤ W.heap.size := by have := hs; simp only [World.size_alloc] at this ⊢; exact this
   have hlz : zs.length ≤ 1099511627776 := by have := congrArg List.length hT; simp only [List.length_append] at this; omega
   refine (pCj1_any d c2 u2 (w.heap.size + 1) (w.heap.size + 2) L zs W (((hr.below hb).more (by simp only [World.size_alloc] at hz2; omega) (Nat.le_refl _)).up hd) hR (by omega) (by simp only [World.size_alloc] at hz2; omega) hlz).mono ?_
   rintro e' w' ⟨h1, h2, h3⟩
   exact ⟨h1, h2, hb.trans h3⟩)
  d (Nat.le_refl _) e (.slice A e.args.length c) [] _ ⟨⟨.slice none 0 0, [], rfl, HG.out, World.ownsRow_nil _ _ _ 7, fun p hp => by simp at hp⟩, Below.refl _ _⟩ (by have h3 := (h.step b1 (Nat.le_refl _)).below b2; simp only [World.size_alloc] at h3; exact h3) ⟨[], by simp⟩)
 have HL := Lib.hid hl
 clear b1 b2 h hl
 rw [List.nil_append] at HV
 generalize hzs : conjE d e = zs at *
 clear hzs
 unfold exV exA at *
 have e0 := HE.out.cell 0
 have e1 := HE.out.cell 1
 have e2 := HE.out.cell 2
 have e3 := HE.out.cell 3
 have e4 := HE.out.cell 4
 have e5 := HE.out.cell 5
 have e6 := HE.out.cell 6
 go_enter Tryz.func42, Tryz.ntmps42
 go_wp2_with fail
 with_reducible refine HV.out.mono ?_
 rintro e' w2 ⟨rfl, ⟨v2, ps, hps, hg2, hr2, hk2⟩, hb2⟩
 have c0 := hg2.cell 0
 have HB2 := Lib.hid (HB.out.trans (hb2.mono (by omega)))
 have HT := Lib.hid (rdE_own hr2 (by have := HL.out; rw [← hps, List.length_map] at this; exact this) hk2)
 clear e0 e1 e2 e3 e4 e5 e6 HV HE HG HB hb2 hr2 hk2
 go_wp2
 go_ret
 have ht := HT.out
 rw [hps] at ht
 exact ⟨v2, rfl, ht.more (Nat.le_refl _) (by omega), HB2.out⟩
end Go.Proofs.YtdhemhmgenhmaaaGreat
