import Derived.Test.YtdhemhmgenhmaaaGreatPKb
import Derived.WalkKit
import Derived.WalkSpells
import Derived.WalkLawsBesides
import Derived.Deep.QuietTactic
import Derived.BigQuiet
import Derived.Handy
import Derived.Lib.Hide
set_option maxRecDepth 100000
set_option maxHeartbeats 25600000
set_option linter.unusedVariables false
set_option linter.unusedSimpArgs false
/-
  simpleNegation: a negation, simplified. Conditions: a well-formed expression. (Written by mkPdZc.py.)
-/
namespace Go.Proofs.YtdhemhmgenhmaaaGreat
open Go.RowKit
theorem pNeg_any (op n k1 k2 : Int) (s nm : ByteArray) (a : Ex) (d : Nat) (u : Value) (w : World) (L : Nat) (h : RdE w L w.heap.size (d + 1) u [a]) (hi : a.op = 4 → ∃ i, a.args = [i]) :
  Calls Tryz.prog 17 #[exV ⟨op, n, (k1, k2, s), nm, [a]⟩ u] w (RetY w L (d + 1) (simN ⟨op, n, (k1, k2, s), nm, [a]⟩)) := by
 have H0 := Lib.hid h
 obtain ⟨A, cc, rfl, hl, hc⟩ := h
 obtain ⟨ad, u0, rfl, hL, hB, q0, r0⟩ := hc 0 a rfl
 rw [Nat.zero_mul, show ad.add 0 = ad by unfold Addr.add; simp] at q0
 obtain ⟨A0, c0, rfl, _⟩ := r0.slice
 have HC0 := Lib.hid q0
 have HR0 := Lib.hid r0
 clear hc q0 r0
 unfold exV
 dsimp only
 rw [show [a].length = 1 from rfl] at *
 have bZ : Below w.heap.size w ((w.alloc (.cells #[.int .i64 op, .int .i64 n, .int .i64 k1, .int .i64 k2, .string s, .string nm, .slice (some ad) 1 cc] 26)).alloc (.cells #[.int .i64 0, .int .i64 0, .int .i64 0, .int .i64 0, .string ⟨#[]⟩, .string ⟨#[]⟩, .slice none 0 0] 26)) := (((Below.refl w.heap.size w).alloc (by first | omega | (simp only [World.size_alloc]; omega)) (.cells #[.int .i64 op, .int .i64 n, .int .i64 k1, .int .i64 k2, .string s, .string nm, .slice (some ad) 1 cc] 26)).alloc (by first | omega | (simp only [World.size_alloc]; omega)) (.cells #[.int .i64 0, .int .i64 0, .int .i64 0, .int .i64 0, .string ⟨#[]⟩, .string ⟨#[]⟩, .slice none 0 0] 26))
 obtain ⟨x0, x1, x2, x3, x4, x5, x6⟩ := HC0.out.below bZ hB
 have oE : Own ((w.alloc (.cells #[.int .i64 op, .int .i64 n, .int .i64 k1, .int .i64 k2, .string s, .string nm, .slice (some ad) 1 cc] 26)).alloc (.cells #[.int .i64 0, .int .i64 0, .int .i64 0, .int .i64 0, .string ⟨#[]⟩, .string ⟨#[]⟩, .slice none 0 0] 26)) w.heap.size 26 #[.int .i64 op, .int .i64 n, .int .i64 k1, .int .i64 k2, .string s, .string nm, .slice (some ad) 1 cc] := (Own.new w 26 #[.int .i64 op, .int .i64 n, .int .i64 k1, .int .i64 k2, .string s, .string nm, .slice (some ad) 1 cc]).alloc _
 have y6 := oE.cell 6
 by_cases h4 : a.op = 4
 ·obtain ⟨i, hai⟩ := hi h4
  have hs : simN ⟨op, n, (k1, k2, s), nm, [a]⟩ = if isT i.op = true then i else ⟨op, n, (k1, k2, s), nm, [a]⟩ := by unfold simN; dsimp only; rw [if_pos h4, hai]
  have HS := Lib.hid hs
  generalize simN ⟨op, n, (k1, k2, s), nm, [a]⟩ = R at *
  obtain ⟨aop, an, ⟨av1, av2, av3⟩, anm, aargs⟩ := a
  dsimp only at *
  subst h4
  subst hai
  obtain ⟨d, rfl⟩ : ∃ k, d = k + 1 := ⟨d - 1, by have := HR0.out.pos; omega⟩
  have r0 := HR0.out
  obtain ⟨A0', c0', hv, _, hc⟩ := r0
  injection hv with e1 e2 e3
  subst e1 e3
  obtain ⟨ai, u1, rfl, _, hBi, q1, r1⟩ := hc 0 i rfl
  rw [Nat.zero_mul, show ai.add 0 = ai by unfold Addr.add; simp] at q1
  obtain ⟨A1, c1, rfl, _⟩ := r1.slice
  have HC1 := Lib.hid q1
  have HR1 := Lib.hid r1
  clear hc q1 r1 hs oE
  rw [show [i].length = 1 from rfl] at *
  have b3 := ((((Below.refl w.heap.size w).alloc (by first | omega | (simp only [World.size_alloc]; omega)) (.cells #[.int .i64 op, .int .i64 n, .int .i64 k1, .int .i64 k2, .string s, .string nm, .slice (some ad) 1 cc] 26)).alloc (by first | omega | (simp only [World.size_alloc]; omega)) (.cells #[.int .i64 0, .int .i64 0, .int .i64 0, .int .i64 0, .string ⟨#[]⟩, .string ⟨#[]⟩, .slice none 0 0] 26)).alloc (by first | omega | (simp only [World.size_alloc]; omega)) (.cells #[.int .i64 4, .int .i64 an, .int .i64 av1, .int .i64 av2, .string av3, .string anm, .slice (some ai) 1 c0] 26))
  obtain ⟨g0, g1, g2, g3, g4, g5, g6⟩ := HC1.out.below b3 hBi
  have b4 := (((((Below.refl w.heap.size w).alloc (by first | omega | (simp only [World.size_alloc]; omega)) (.cells #[.int .i64 op, .int .i64 n, .int .i64 k1, .int .i64 k2, .string s, .string nm, .slice (some ad) 1 cc] 26)).alloc (by first | omega | (simp only [World.size_alloc]; omega)) (.cells #[.int .i64 0, .int .i64 0, .int .i64 0, .int .i64 0, .string ⟨#[]⟩, .string ⟨#[]⟩, .slice none 0 0] 26)).alloc (by first | omega | (simp only [World.size_alloc]; omega)) (.cells #[.int .i64 4, .int .i64 an, .int .i64 av1, .int .i64 av2, .string av3, .string anm, .slice (some ai) 1 c0] 26)).alloc (by first | omega | (simp only [World.size_alloc]; omega)) (.cells #[.int .i64 i.op, .int .i64 i.n, .int .i64 i.v.1, .int .i64 i.v.2.1, .string i.v.2.2, .string i.nm, .slice A1 i.args.length c1] 26))
  have oq0 : Own ((((w.alloc (.cells #[.int .i64 op, .int .i64 n, .int .i64 k1, .int .i64 k2, .string s, .string nm, .slice (some ad) 1 cc] 26)).alloc (.cells #[.int .i64 0, .int .i64 0, .int .i64 0, .int .i64 0, .string ⟨#[]⟩, .string ⟨#[]⟩, .slice none 0 0] 26)).alloc (.cells #[.int .i64 4, .int .i64 an, .int .i64 av1, .int .i64 av2, .string av3, .string anm, .slice (some ai) 1 c0] 26)).alloc (.cells #[.int .i64 i.op, .int .i64 i.n, .int .i64 i.v.1, .int .i64 i.v.2.1, .string i.v.2.2, .string i.nm, .slice A1 i.args.length c1] 26)) (w.heap.size) 26 #[.int .i64 op, .int .i64 n, .int .i64 k1, .int .i64 k2, .string s, .string nm, .slice (some ad) 1 cc] := by
   have := ((((Own.new w 26 #[.int .i64 op, .int .i64 n, .int .i64 k1, .int .i64 k2, .string s, .string nm, .slice (some ad) 1 cc]).alloc (.cells #[.int .i64 0, .int .i64 0, .int .i64 0, .int .i64 0, .string ⟨#[]⟩, .string ⟨#[]⟩, .slice none 0 0] 26)).alloc (.cells #[.int .i64 4, .int .i64 an, .int .i64 av1, .int .i64 av2, .string av3, .string anm, .slice (some ai) 1 c0] 26)).alloc (.cells #[.int .i64 i.op, .int .i64 i.n, .int .i64 i.v.1, .int .i64 i.v.2.1, .string i.v.2.2, .string i.nm, .slice A1 i.args.length c1] 26))
   simpa only [World.size_alloc] using this
  have oq1 : Own ((((w.alloc (.cells #[.int .i64 op, .int .i64 n, .int .i64 k1, .int .i64 k2, .string s, .string nm, .slice (some ad) 1 cc] 26)).alloc (.cells #[.int .i64 0, .int .i64 0, .int .i64 0, .int .i64 0, .string ⟨#[]⟩, .string ⟨#[]⟩, .slice none 0 0] 26)).alloc (.cells #[.int .i64 4, .int .i64 an, .int .i64 av1, .int .i64 av2, .string av3, .string anm, .slice (some ai) 1 c0] 26)).alloc (.cells #[.int .i64 i.op, .int .i64 i.n, .int .i64 i.v.1, .int .i64 i.v.2.1, .string i.v.2.2, .string i.nm, .slice A1 i.args.length c1] 26)) (w.heap.size + 1) 26 #[.int .i64 0, .int .i64 0, .int .i64 0, .int .i64 0, .string ⟨#[]⟩, .string ⟨#[]⟩, .slice none 0 0] := by
   have := (((Own.new (w.alloc (.cells #[.int .i64 op, .int .i64 n, .int .i64 k1, .int .i64 k2, .string s, .string nm, .slice (some ad) 1 cc] 26)) 26 #[.int .i64 0, .int .i64 0, .int .i64 0, .int .i64 0, .string ⟨#[]⟩, .string ⟨#[]⟩, .slice none 0 0]).alloc (.cells #[.int .i64 4, .int .i64 an, .int .i64 av1, .int .i64 av2, .string av3, .string anm, .slice (some ai) 1 c0] 26)).alloc (.cells #[.int .i64 i.op, .int .i64 i.n, .int .i64 i.v.1, .int .i64 i.v.2.1, .string i.v.2.2, .string i.nm, .slice A1 i.args.length c1] 26))
   simpa only [World.size_alloc] using this
  have oq2 : Own ((((w.alloc (.cells #[.int .i64 op, .int .i64 n, .int .i64 k1, .int .i64 k2, .string s, .string nm, .slice (some ad) 1 cc] 26)).alloc (.cells #[.int .i64 0, .int .i64 0, .int .i64 0, .int .i64 0, .string ⟨#[]⟩, .string ⟨#[]⟩, .slice none 0 0] 26)).alloc (.cells #[.int .i64 4, .int .i64 an, .int .i64 av1, .int .i64 av2, .string av3, .string anm, .slice (some ai) 1 c0] 26)).alloc (.cells #[.int .i64 i.op, .int .i64 i.n, .int .i64 i.v.1, .int .i64 i.v.2.1, .string i.v.2.2, .string i.nm, .slice A1 i.args.length c1] 26)) (w.heap.size + 1 + 1) 26 #[.int .i64 4, .int .i64 an, .int .i64 av1, .int .i64 av2, .string av3, .string anm, .slice (some ai) 1 c0] := by
   have := ((Own.new ((w.alloc (.cells #[.int .i64 op, .int .i64 n, .int .i64 k1, .int .i64 k2, .string s, .string nm, .slice (some ad) 1 cc] 26)).alloc (.cells #[.int .i64 0, .int .i64 0, .int .i64 0, .int .i64 0, .string ⟨#[]⟩, .string ⟨#[]⟩, .slice none 0 0] 26)) 26 #[.int .i64 4, .int .i64 an, .int .i64 av1, .int .i64 av2, .string av3, .string anm, .slice (some ai) 1 c0]).alloc (.cells #[.int .i64 i.op, .int .i64 i.n, .int .i64 i.v.1, .int .i64 i.v.2.1, .string i.v.2.2, .string i.nm, .slice A1 i.args.length c1] 26))
   simpa only [World.size_alloc] using this
  have oq3 : Own ((((w.alloc (.cells #[.int .i64 op, .int .i64 n, .int .i64 k1, .int .i64 k2, .string s, .string nm, .slice (some ad) 1 cc] 26)).alloc (.cells #[.int .i64 0, .int .i64 0, .int .i64 0, .int .i64 0, .string ⟨#[]⟩, .string ⟨#[]⟩, .slice none 0 0] 26)).alloc (.cells #[.int .i64 4, .int .i64 an, .int .i64 av1, .int .i64 av2, .string av3, .string anm, .slice (some ai) 1 c0] 26)).alloc (.cells #[.int .i64 i.op, .int .i64 i.n, .int .i64 i.v.1, .int .i64 i.v.2.1, .string i.v.2.2, .string i.nm, .slice A1 i.args.length c1] 26)) (w.heap.size + 1 + 1 + 1) 26 #[.int .i64 i.op, .int .i64 i.n, .int .i64 i.v.1, .int .i64 i.v.2.1, .string i.v.2.2, .string i.nm, .slice A1 i.args.length c1] := by
   have := (Own.new (((w.alloc (.cells #[.int .i64 op, .int .i64 n, .int .i64 k1, .int .i64 k2, .string s, .string nm, .slice (some ad) 1 cc] 26)).alloc (.cells #[.int .i64 0, .int .i64 0, .int .i64 0, .int .i64 0, .string ⟨#[]⟩, .string ⟨#[]⟩, .slice none 0 0] 26)).alloc (.cells #[.int .i64 4, .int .i64 an, .int .i64 av1, .int .i64 av2, .string av3, .string anm, .slice (some ai) 1 c0] 26)) 26 #[.int .i64 i.op, .int .i64 i.n, .int .i64 i.v.1, .int .i64 i.v.2.1, .string i.v.2.2, .string i.nm, .slice A1 i.args.length c1])
   simpa only [World.size_alloc] using this
  have HE4 := Lib.hid oq0
  have HZ4 := Lib.hid oq1
  have HI4 := Lib.hid oq3
  have HB4 := Lib.hid b4
  clear oq0 oq1 oq2 oq3 b4 b3
  go_enter Tryz.func17, Tryz.ntmps17
  go_wp2_with fail
  refine (pIsT_any i.op _).mono ?_
  rintro e w5 ⟨rfl, hb5⟩
  have oE5 := HE4.out.below hb5 HE4.out.lt
  have z5 := HZ4.out.below hb5 HZ4.out.lt
  have oI5 := HI4.out.below hb5 HI4.out.lt
  have B5 := HB4.out.trans (hb5.mono HB4.out.size)
  clear x0 x1 x2 x3 x4 x5 x6 y6 g0 g1 g2 g3 g4 g5 g6 HE4 HZ4 HI4 HB4 hb5 bZ
  have zz0 := z5.cell 0
  have zz1 := z5.cell 1
  have zz2 := z5.cell 2
  have zz3 := z5.cell 3
  have zz4 := z5.cell 4
  have zz5 := z5.cell 5
  have zz6 := z5.cell 6
  have m0 := z5.free 0
  have m1 := z5.free 1
  have m2 := z5.free 2
  have m3 := z5.free 3
  have m4 := z5.free 4
  have m5 := z5.free 5
  have m6 := z5.free 6
  have pp0 := oI5.cell 0
  have pp1 := oI5.cell 1
  have pp2 := oI5.cell 2
  have pp3 := oI5.cell 3
  have pp4 := oI5.cell 4
  have pp5 := oI5.cell 5
  have pp6 := oI5.cell 6
  have yy0 := oE5.cell 0
  have yy1 := oE5.cell 1
  have yy2 := oE5.cell 2
  have yy3 := oE5.cell 3
  have yy4 := oE5.cell 4
  have yy5 := oE5.cell 5
  have yy6 := oE5.cell 6
  have HT := Lib.hid (show isT i.op = isT i.op from rfl)
  generalize isT i.op = T at *
  cases T
  ·rw [if_neg (by simp)] at HS
   have HX := Lib.hid (((((((z5.store 0 (.int .i64 op)).store 1 (.int .i64 n)).store 2 (.int .i64 k1)).store 3 (.int .i64 k2)).store 4 (.string s)).store 5 (.string nm)).store 6 (.slice (some ad) 1 cc))
   have HF := Lib.hid (((((((B5.sc (w.heap.size + 1) 0 (.int .i64 op)).sc (w.heap.size + 1) 1 (.int .i64 n)).sc (w.heap.size + 1) 2 (.int .i64 k1)).sc (w.heap.size + 1) 3 (.int .i64 k2)).sc (w.heap.size + 1) 4 (.string s)).sc (w.heap.size + 1) 5 (.string nm)).sc (w.heap.size + 1) 6 (.slice (some ad) 1 cc))
   go_wp2
   (try simp only [Exit.inBlock, Exit.then]); refine bodyPost_ret_by (results_cell_row1 (by rfl) _ _ (w.heap.size + 1) _ (by rfl) (load_ex HX.out)) ?_ ?_; (focus rfl); exact ⟨.slice (some ad) 1 cc, by rw [HS.out]; rfl, by rw [HS.out]; have h := H0.out.step HF.out (Nat.le_refl _); simp only [World.size_setCell] at h ⊢; exact h, HF.out⟩
  ·rw [if_pos rfl] at HS
   have HX := Lib.hid (((((((z5.store 0 (.int .i64 i.op)).store 1 (.int .i64 i.n)).store 2 (.int .i64 i.v.1)).store 3 (.int .i64 i.v.2.1)).store 4 (.string i.v.2.2)).store 5 (.string i.nm)).store 6 (.slice A1 i.args.length c1))
   have HF := Lib.hid (((((((B5.sc (w.heap.size + 1) 0 (.int .i64 i.op)).sc (w.heap.size + 1) 1 (.int .i64 i.n)).sc (w.heap.size + 1) 2 (.int .i64 i.v.1)).sc (w.heap.size + 1) 3 (.int .i64 i.v.2.1)).sc (w.heap.size + 1) 4 (.string i.v.2.2)).sc (w.heap.size + 1) 5 (.string i.nm)).sc (w.heap.size + 1) 6 (.slice A1 i.args.length c1))
   go_wp2
   (try simp only [Exit.inBlock, Exit.then]); refine bodyPost_ret_by (results_cell_row1 (by rfl) _ _ (w.heap.size + 1) _ (by rfl) (load_ex HX.out)) ?_ ?_; (focus rfl); exact ⟨.slice A1 i.args.length c1, by rw [HS.out]; rfl, by rw [HS.out]; have h := ((HR1.out.step HF.out (Nat.le_refl _)).up1).up1; simp only [World.size_setCell] at h ⊢; exact h, HF.out⟩
 ·obtain ⟨aop, an, ⟨av1, av2, av3⟩, anm, aargs⟩ := a
  dsimp only at *
  have ox : Own (((w.alloc (.cells #[.int .i64 op, .int .i64 n, .int .i64 k1, .int .i64 k2, .string s, .string nm, .slice (some ad) 1 cc] 26)).alloc (.cells #[.int .i64 0, .int .i64 0, .int .i64 0, .int .i64 0, .string ⟨#[]⟩, .string ⟨#[]⟩, .slice none 0 0] 26)).alloc (.cells #[.int .i64 aop, .int .i64 an, .int .i64 av1, .int .i64 av2, .string av3, .string anm, .slice A0 aargs.length c0] 26)) (w.heap.size + 1 + 1) 26 #[.int .i64 aop, .int .i64 an, .int .i64 av1, .int .i64 av2, .string av3, .string anm, .slice A0 aargs.length c0] := by
   have := (Own.new ((w.alloc (.cells #[.int .i64 op, .int .i64 n, .int .i64 k1, .int .i64 k2, .string s, .string nm, .slice (some ad) 1 cc] 26)).alloc (.cells #[.int .i64 0, .int .i64 0, .int .i64 0, .int .i64 0, .string ⟨#[]⟩, .string ⟨#[]⟩, .slice none 0 0] 26)) 26 #[.int .i64 aop, .int .i64 an, .int .i64 av1, .int .i64 av2, .string av3, .string anm, .slice A0 aargs.length c0])
   simpa only [World.size_alloc] using this
  have oz : Own (((w.alloc (.cells #[.int .i64 op, .int .i64 n, .int .i64 k1, .int .i64 k2, .string s, .string nm, .slice (some ad) 1 cc] 26)).alloc (.cells #[.int .i64 0, .int .i64 0, .int .i64 0, .int .i64 0, .string ⟨#[]⟩, .string ⟨#[]⟩, .slice none 0 0] 26)).alloc (.cells #[.int .i64 aop, .int .i64 an, .int .i64 av1, .int .i64 av2, .string av3, .string anm, .slice A0 aargs.length c0] 26)) (w.heap.size + 1) 26 #[.int .i64 0, .int .i64 0, .int .i64 0, .int .i64 0, .string ⟨#[]⟩, .string ⟨#[]⟩, .slice none 0 0] := by
   have := ((Own.new (w.alloc (.cells #[.int .i64 op, .int .i64 n, .int .i64 k1, .int .i64 k2, .string s, .string nm, .slice (some ad) 1 cc] 26)) 26 #[.int .i64 0, .int .i64 0, .int .i64 0, .int .i64 0, .string ⟨#[]⟩, .string ⟨#[]⟩, .slice none 0 0]).alloc (.cells #[.int .i64 aop, .int .i64 an, .int .i64 av1, .int .i64 av2, .string av3, .string anm, .slice A0 aargs.length c0] 26))
   simpa only [World.size_alloc] using this
  have oe : Own (((w.alloc (.cells #[.int .i64 op, .int .i64 n, .int .i64 k1, .int .i64 k2, .string s, .string nm, .slice (some ad) 1 cc] 26)).alloc (.cells #[.int .i64 0, .int .i64 0, .int .i64 0, .int .i64 0, .string ⟨#[]⟩, .string ⟨#[]⟩, .slice none 0 0] 26)).alloc (.cells #[.int .i64 aop, .int .i64 an, .int .i64 av1, .int .i64 av2, .string av3, .string anm, .slice A0 aargs.length c0] 26)) w.heap.size 26 #[.int .i64 op, .int .i64 n, .int .i64 k1, .int .i64 k2, .string s, .string nm, .slice (some ad) 1 cc] := by
   have := (((Own.new w 26 #[.int .i64 op, .int .i64 n, .int .i64 k1, .int .i64 k2, .string s, .string nm, .slice (some ad) 1 cc]).alloc (.cells #[.int .i64 0, .int .i64 0, .int .i64 0, .int .i64 0, .string ⟨#[]⟩, .string ⟨#[]⟩, .slice none 0 0] 26)).alloc (.cells #[.int .i64 aop, .int .i64 an, .int .i64 av1, .int .i64 av2, .string av3, .string anm, .slice A0 aargs.length c0] 26))
   simpa only [World.size_alloc] using this
  have b3 := ((((Below.refl w.heap.size w).alloc (by first | omega | (simp only [World.size_alloc]; omega)) (.cells #[.int .i64 op, .int .i64 n, .int .i64 k1, .int .i64 k2, .string s, .string nm, .slice (some ad) 1 cc] 26)).alloc (by first | omega | (simp only [World.size_alloc]; omega)) (.cells #[.int .i64 0, .int .i64 0, .int .i64 0, .int .i64 0, .string ⟨#[]⟩, .string ⟨#[]⟩, .slice none 0 0] 26)).alloc (by first | omega | (simp only [World.size_alloc]; omega)) (.cells #[.int .i64 aop, .int .i64 an, .int .i64 av1, .int .i64 av2, .string av3, .string anm, .slice A0 aargs.length c0] 26))
  have HE3 := Lib.hid oe
  have HZ3 := Lib.hid oz
  have HA3 := Lib.hid ox
  have HB3 := Lib.hid b3
  clear ox oz oe b3 oE
  by_cases h5 : aop = 7 ∨ aop = 8 ∨ aop = 9 ∨ aop = 10 ∨ aop = 11 ∨ aop = 12
  ·have hs : simN ⟨op, n, (k1, k2, s), nm, [⟨aop, an, (av1, av2, av3), anm, aargs⟩]⟩ = ⟨oppO aop, an, (av1, av2, av3), anm, aargs⟩ := by unfold simN; dsimp only; rw [if_neg h4, if_pos h5]
   have HS := Lib.hid hs
   generalize simN ⟨op, n, (k1, k2, s), nm, [⟨aop, an, (av1, av2, av3), anm, aargs⟩]⟩ = R at *
   clear hs h4 hi
   rcases h5 with rfl | rfl | rfl | rfl | rfl | rfl
   all_goals
    go_enter Tryz.func17, Tryz.ntmps17
    go_wp2_with fail
    refine (pOpp_any _ _).mono ?_
    rintro e w5 ⟨rfl, hb5⟩
    generalize oppO _ = O at *
    have a5 := HA3.out.below hb5 HA3.out.lt
    have z5 := HZ3.out.below hb5 HZ3.out.lt
    have B5 := HB3.out.trans (hb5.mono HB3.out.size)
    have m0' := a5.free 0
    have n0' := a5.cell 0
    have a6 := a5.store 0 (.int .i64 O)
    have z6 := z5.far (p := ⟨w.heap.size + 1 + 1, 0, none⟩) (by show w.heap.size + 1 ≠ w.heap.size + 1 + 1; omega) (.int .i64 O)
    have B6 := B5.sc (w.heap.size + 1 + 1) 0 (.int .i64 O)
    clear x0 x1 x2 x3 x4 x5 x6 y6 HE3 HZ3 HA3 HB3 hb5 bZ
    have zz0 := z6.cell 0
    have zz1 := z6.cell 1
    have zz2 := z6.cell 2
    have zz3 := z6.cell 3
    have zz4 := z6.cell 4
    have zz5 := z6.cell 5
    have zz6 := z6.cell 6
    have m0 := z6.free 0
    have m1 := z6.free 1
    have m2 := z6.free 2
    have m3 := z6.free 3
    have m4 := z6.free 4
    have m5 := z6.free 5
    have m6 := z6.free 6
    have pp0 := a6.cell 0
    have pp1 := a6.cell 1
    have pp2 := a6.cell 2
    have pp3 := a6.cell 3
    have pp4 := a6.cell 4
    have pp5 := a6.cell 5
    have pp6 := a6.cell 6
    have HX := Lib.hid (((((((z6.store 0 (.int .i64 O)).store 1 (.int .i64 an)).store 2 (.int .i64 av1)).store 3 (.int .i64 av2)).store 4 (.string av3)).store 5 (.string anm)).store 6 (.slice A0 aargs.length c0))
    have HF := Lib.hid (((((((B6.sc (w.heap.size + 1) 0 (.int .i64 O)).sc (w.heap.size + 1) 1 (.int .i64 an)).sc (w.heap.size + 1) 2 (.int .i64 av1)).sc (w.heap.size + 1) 3 (.int .i64 av2)).sc (w.heap.size + 1) 4 (.string av3)).sc (w.heap.size + 1) 5 (.string anm)).sc (w.heap.size + 1) 6 (.slice A0 aargs.length c0))
    go_wp2
    (try simp only [Exit.inBlock, Exit.then]); refine bodyPost_ret_by (results_cell_row1 (by rfl) _ _ (w.heap.size + 1) _ (by rfl) (load_ex HX.out)) ?_ ?_; (focus rfl); exact ⟨.slice A0 aargs.length c0, by rw [HS.out]; rfl, by rw [HS.out]; have h := (HR0.out.step HF.out (Nat.le_refl _)).up1; simp only [World.size_setCell] at h ⊢; exact h, HF.out⟩
  ·have hs : simN ⟨op, n, (k1, k2, s), nm, [⟨aop, an, (av1, av2, av3), anm, aargs⟩]⟩ = ⟨op, n, (k1, k2, s), nm, [⟨aop, an, (av1, av2, av3), anm, aargs⟩]⟩ := by unfold simN; dsimp only; rw [if_neg h4, if_neg h5]
   rw [hs]
   obtain ⟨h7, h8, h9, h10, h11, h12⟩ : aop ≠ 7 ∧ aop ≠ 8 ∧ aop ≠ 9 ∧ aop ≠ 10 ∧ aop ≠ 11 ∧ aop ≠ 12 := by omega
   have HX := Lib.hid (show Own (((w.alloc (.cells #[.int .i64 op, .int .i64 n, .int .i64 k1, .int .i64 k2, .string s, .string nm, .slice (some ad) 1 cc] 26)).alloc (.cells #[.int .i64 op, .int .i64 n, .int .i64 k1, .int .i64 k2, .string s, .string nm, .slice (some ad) 1 cc] 26)).alloc (.cells #[.int .i64 aop, .int .i64 an, .int .i64 av1, .int .i64 av2, .string av3, .string anm, .slice A0 aargs.length c0] 26)) (w.heap.size + 1) 26 #[.int .i64 op, .int .i64 n, .int .i64 k1, .int .i64 k2, .string s, .string nm, .slice (some ad) 1 cc] from by
    have := ((Own.new (w.alloc (.cells #[.int .i64 op, .int .i64 n, .int .i64 k1, .int .i64 k2, .string s, .string nm, .slice (some ad) 1 cc] 26)) 26 #[.int .i64 op, .int .i64 n, .int .i64 k1, .int .i64 k2, .string s, .string nm, .slice (some ad) 1 cc]).alloc (.cells #[.int .i64 aop, .int .i64 an, .int .i64 av1, .int .i64 av2, .string av3, .string anm, .slice A0 aargs.length c0] 26))
    simpa only [World.size_alloc] using this)
   have HF := Lib.hid ((((Below.refl w.heap.size w).alloc (by first | omega | (simp only [World.size_alloc]; omega)) (.cells #[.int .i64 op, .int .i64 n, .int .i64 k1, .int .i64 k2, .string s, .string nm, .slice (some ad) 1 cc] 26)).alloc (by first | omega | (simp only [World.size_alloc]; omega)) (.cells #[.int .i64 op, .int .i64 n, .int .i64 k1, .int .i64 k2, .string s, .string nm, .slice (some ad) 1 cc] 26)).alloc (by first | omega | (simp only [World.size_alloc]; omega)) (.cells #[.int .i64 aop, .int .i64 an, .int .i64 av1, .int .i64 av2, .string av3, .string anm, .slice A0 aargs.length c0] 26))
   clear hs h5 hi HE3 HZ3 HA3 HB3
   simp only [← beq_eq_false_iff_ne] at *
   go_enter Tryz.func17, Tryz.ntmps17
   go_wp2
   (try simp only [Exit.inBlock, Exit.then]); refine bodyPost_ret_by (results_cell_row1 (by rfl) _ _ (w.heap.size + 1) _ (by rfl) (load_ex HX.out)) ?_ ?_; (focus rfl); exact ⟨_, rfl, H0.out.step HF.out (Nat.le_refl _), HF.out⟩
end Go.Proofs.YtdhemhmgenhmaaaGreat
