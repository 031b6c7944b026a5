import Derived.Test.YtdhemhmgenhmaaaGreatPKb
import Derived.Deep.DeepCutAuto
import Derived.WalkKit
import Derived.WalkSpells
import Derived.WalkLawsBesides
import Derived.Deep.QuietTactic
import Derived.BigQuiet
import Derived.Handy
import Derived.Lib.Hide
set_option maxRecDepth 100000
set_option maxHeartbeats 25600000
set_option linter.unusedVariables false
set_option linter.unusedSimpArgs false
/-
  simpleCoalesce: a COALESCE, simplified. Conditions: lengths. (Written by mkPdZd.py.)
-/
namespace Go.Proofs.YtdhemhmgenhmaaaGreat
open Go.RowKit
theorem coF_drop {es : List Ex} {k : Nat} {a : Ex} (h : es[k]? = some a) : coF (es.drop k) = if a.op = 1 then (if a.v = nullP then coF (es.drop (k + 1)) else [a]) else a :: coF (es.drop (k + 1)) := by
 obtain ⟨h1, rfl⟩ := List.getElem?_eq_some_iff.1 h
 rw [List.drop_eq_getElem_cons h1]
 conv => lhs; unfold coF
theorem rdE_ownL {w : World} {base L d : Nat} {v : Value} {ps : List ExU} (h : w.ownsRow base 26 7 v ps.length (flatE ps)) (hL : L ≤ base) (hl : ps.length ≤ 1099511627776) (hkid : ∀ p ∈ ps, RdE w L w.heap.size d p.2 p.1.args) : RdE w L w.heap.size (d + 1) v (ps.map (·.1)) := by
 rcases h.2 with ⟨rfl, h0⟩ | ⟨g, cap, cur, rfl, hb, hh, hn, hc, hs, ht⟩
 ·obtain rfl := List.eq_nil_of_length_eq_zero h0
  exact ⟨none, 0, rfl, by simp, fun k e hk => by simp at hk⟩
 ·have hg : g < w.heap.size := by
   rcases Nat.lt_or_ge g w.heap.size with h1 | h1
   ·exact h1
   ·rw [Array.getElem?_eq_none h1] at hh; cases hh
  have he : ∀ i u, (flatE ps)[i]? = some u → w.cell? ⟨g, i, none⟩ = some u := fun i u hu => by
   rw [cell_of_row w g i cur _ _ hh, ← Array.getElem?_toList]
   rw [← ht, List.getElem?_take] at hu
   split at hu
   ·exact hu
   ·cases hu
  refine ⟨some ⟨g, 0, none⟩, cap, by rw [List.length_map], by rw [List.length_map]; exact hl, fun k e hk => ?_⟩
  rw [List.getElem?_map] at hk
  obtain ⟨p, hp, rfl⟩ := Option.map_eq_some_iff.1 hk
  refine ⟨⟨g, 0, none⟩, p.2, rfl, Nat.le_trans hL hb, hg, ?_, hkid p (List.mem_of_getElem? hp)⟩
  rw [addX]
  have G := fun j hj u hu => he (k * 7 + j) u ((flatE_get ps k p hp j hj).trans hu)
  exact ⟨G 0 (by decide) _ rfl, G 1 (by decide) _ rfl, G 2 (by decide) _ rfl, G 3 (by decide) _ rfl, G 4 (by decide) _ rfl, G 5 (by decide) _ rfl, G 6 (by decide) _ rfl⟩
theorem own_blk {w : World} {base n : Nat} {v : Value} {xs : List Value} (h : w.ownsRow base 26 7 v n xs) (hn : n ≠ 0) : ∃ g c, v = .slice (some ⟨g, 0, none⟩) n c := by
 rcases h.2 with ⟨_, h0⟩ | ⟨g, cap, cur, rfl, _⟩
 ·exact absurd h0 hn
 ·exact ⟨g, cap, rfl⟩
theorem simF_one {e r : Ex} (h : coF e.args = [r]) : simF e = r := by unfold simF; rw [h]
theorem simF_ne {e : Ex} (h : (coF e.args).length ≠ 1) : simF e = { e with args := coF e.args } := by
 unfold simF
 split
 ·next r hr => rw [hr] at h; exact absurd rfl h
 ·rfl
theorem nul_eqV (k m : Int) (s : ByteArray) : Va.eqV k m s 0 0 ⟨#[]⟩ = decide ((k, m, s) = nullP) := by
 rw [Bool.eq_iff_iff, decide_eq_true_eq]
 unfold Va.eqV nullP
 simp only [Bool.and_eq_true, beq_iff_eq, baL]
 constructor
 ·rintro ⟨rfl, rfl, h⟩
  rw [baE h]
 ·intro h
  injection h with h1 h2
  injection h2 with h2 h3
  subst h1 h2 h3
  exact ⟨rfl, rfl, baL⟩
theorem pCoa_any (op n k1 k2 : Int) (s nm : ByteArray) (es : List Ex) (d : Nat) (u : Value) (w : World) (L : Nat) (hL : L ≤ w.heap.size) (h : RdE w L w.heap.size (d + 1) u es) :
  Calls Tryz.prog 19 #[exV ⟨op, n, (k1, k2, s), nm, es⟩ u] w (RetY w L (d + 1) (simF ⟨op, n, (k1, k2, s), nm, es⟩)) := by
 obtain ⟨A, cc, rfl, hl, hc⟩ := h
 have HC := Lib.hid hc
 clear hc
 unfold exV
 dsimp only
 obtain ⟨N, hN⟩ : ∃ N, N = w.heap.size + 1 + 1 := ⟨_, rfl⟩
 have hLN : L ≤ N := by omega
 have b0 := (((Below.refl w.heap.size w).alloc (by first | omega | (simp only [World.size_alloc]; omega)) (.cells #[.int .i64 op, .int .i64 n, .int .i64 k1, .int .i64 k2, .string s, .string nm, .slice A es.length cc] 26)).alloc (by first | omega | (simp only [World.size_alloc]; omega)) (.cells #[.int .i64 0, .int .i64 0, .int .i64 0, .int .i64 0, .string ⟨#[]⟩, .string ⟨#[]⟩, .slice none 0 0] 26))
 have zs0 : ((w.alloc (.cells #[.int .i64 op, .int .i64 n, .int .i64 k1, .int .i64 k2, .string s, .string nm, .slice A es.length cc] 26)).alloc (.cells #[.int .i64 0, .int .i64 0, .int .i64 0, .int .i64 0, .string ⟨#[]⟩, .string ⟨#[]⟩, .slice none 0 0] 26)).heap.size = N := by rw [hN]; simp only [World.size_alloc]
 have oE0 : Own ((w.alloc (.cells #[.int .i64 op, .int .i64 n, .int .i64 k1, .int .i64 k2, .string s, .string nm, .slice A es.length cc] 26)).alloc (.cells #[.int .i64 0, .int .i64 0, .int .i64 0, .int .i64 0, .string ⟨#[]⟩, .string ⟨#[]⟩, .slice none 0 0] 26)) w.heap.size 26 #[.int .i64 op, .int .i64 n, .int .i64 k1, .int .i64 k2, .string s, .string nm, .slice A es.length cc] := by
  have := ((Own.new w 26 #[.int .i64 op, .int .i64 n, .int .i64 k1, .int .i64 k2, .string s, .string nm, .slice A es.length cc]).alloc (.cells #[.int .i64 0, .int .i64 0, .int .i64 0, .int .i64 0, .string ⟨#[]⟩, .string ⟨#[]⟩, .slice none 0 0] 26))
  simpa only [World.size_alloc] using this
 have oZ0 : Own ((w.alloc (.cells #[.int .i64 op, .int .i64 n, .int .i64 k1, .int .i64 k2, .string s, .string nm, .slice A es.length cc] 26)).alloc (.cells #[.int .i64 0, .int .i64 0, .int .i64 0, .int .i64 0, .string ⟨#[]⟩, .string ⟨#[]⟩, .slice none 0 0] 26)) (w.heap.size + 1) 26 #[.int .i64 0, .int .i64 0, .int .i64 0, .int .i64 0, .string ⟨#[]⟩, .string ⟨#[]⟩, .slice none 0 0] := by
  have := (Own.new (w.alloc (.cells #[.int .i64 op, .int .i64 n, .int .i64 k1, .int .i64 k2, .string s, .string nm, .slice A es.length cc] 26)) 26 #[.int .i64 0, .int .i64 0, .int .i64 0, .int .i64 0, .string ⟨#[]⟩, .string ⟨#[]⟩, .slice none 0 0])
  simpa only [World.size_alloc] using this
 have y6 := oE0.cell 6
 have HE0 := Lib.hid oE0
 have HZ0 := Lib.hid oZ0
 have HB0 := Lib.hid b0
 have HZS := Lib.hid zs0
 clear b0 oE0 oZ0 zs0
 generalize hR : simF ⟨op, n, (k1, k2, s), nm, es⟩ = R at *
 have HR := Lib.hid hR
 clear hR
 go_enter Tryz.func19, Tryz.ntmps19
 go_upto_region 3 with fail
 generalize ((w.alloc (.cells #[.int .i64 op, .int .i64 n, .int .i64 k1, .int .i64 k2, .string s, .string nm, .slice A es.length cc] 26)).alloc (.cells #[.int .i64 0, .int .i64 0, .int .i64 0, .int .i64 0, .string ⟨#[]⟩, .string ⟨#[]⟩, .slice none 0 0] 26)) = W0 at *
 clear y6
 go_loopw [3, 9] (fun o i wr => ∃ (k : Nat) (ps : List ExU), k ≤ es.length ∧ i = .int .i64 k ∧ ps.length ≤ k ∧ Hid (coF es = ps.map (·.1) ++ coF (es.drop k)) ∧ Hid (wr.ownsRow N 26 7 o ps.length (flatE ps)) ∧ Hid (∀ p ∈ ps, RdE w L w.heap.size d p.2 p.1.args) ∧ Below N W0 wr) (fun _ i _ => es.length - (intOf i).toNat)
 case atStart => exact ⟨0, [], Nat.zero_le _, rfl, Nat.le_refl _, Lib.hid rfl, Lib.hid (World.ownsRow_nil W0 N 26 7), Lib.hid (fun p hp => by simp at hp), Below.refl _ _⟩
 case round =>
  obtain ⟨k, ps, hk, rfl, hpk, HCO, HO, HK, hbr⟩ := hrel
  have hbz := hbr.size
  have hbN : N ≤ wr.heap.size := by have := HZS.out; omega
  have hNw : w.heap.size ≤ N := by omega
  by_cases hlt : k < es.length
  ·have hki : (k : Int) < es.length := by omega
   have hki0 : (0 : Int) ≤ (k : Int) := by omega
   have hx := List.getElem?_eq_getElem hlt
   obtain ⟨ad, x, rfl, _, hab, hxc, hxr⟩ := HC.out k _ hx
   have hd := coF_drop hx
   generalize es[k] = y at *
   obtain ⟨aop, an, ⟨av1, av2, av3⟩, anm, aargs⟩ := y
   dsimp only at hd
   obtain ⟨A3, c3, rfl, _⟩ := hxr.slice
   have bwr : Below w.heap.size w wr := HB0.out.trans (hbr.mono hNw)
   obtain ⟨x0, x1, x2, x3, x4, x5, x6⟩ := hxc.below bwr (by rw [add_blk]; exact hab)
   dsimp only at x0 x1 x2 x3 x4 x5 x6
   have bV : Below wr.heap.size wr (wr.alloc (.cells #[.int .i64 aop, .int .i64 an, .int .i64 av1, .int .i64 av2, .string av3, .string anm, .slice A3 aargs.length c3] 26)) := (Below.refl _ _).alloc (Nat.le_refl _) _
   have oV := Own.new wr 26 #[.int .i64 aop, .int .i64 an, .int .i64 av1, .int .i64 av2, .string av3, .string anm, .slice A3 aargs.length c3]
   have HX := Lib.hid hxr
   have hVs : wr.heap.size < (wr.alloc (.cells #[.int .i64 aop, .int .i64 an, .int .i64 av1, .int .i64 av2, .string av3, .string anm, .slice A3 aargs.length c3] 26)).heap.size := oV.lt
   have f0 := after_cell hVs (oV.cell 0)
   have f1 := after_cell hVs (oV.cell 1)
   have f2 := after_cell hVs (oV.cell 2)
   have f3 := after_cell hVs (oV.cell 3)
   have f4 := after_cell hVs (oV.cell 4)
   have f5 := after_cell hVs (oV.cell 5)
   have f6 := after_cell hVs (oV.cell 6)
   have q1 := fun W => Va.eql_val av1 av2 av3 0 0 ⟨#[]⟩ W
   rw [nul_eqV] at q1
   have HD := Lib.hid hd
   clear hd hxc hxr hx
   by_cases h1 : aop = 1
   ·subst h1
    by_cases hv : (av1, av2, av3) = nullP
    ·rw [decide_eq_true hv] at q1
     have HD1 := Lib.hid (by have := HD.out; rw [if_pos rfl, if_pos hv] at this; exact this : coF (es.drop k) = coF (es.drop (k + 1)))
     clear HD hv
     go_upto_region 5 with fail
     generalize wr.alloc (.cells #[.int .i64 1, .int .i64 an, .int .i64 av1, .int .i64 av2, .string av3, .string anm, .slice A3 aargs.length c3] 26) = V at *
     have HN : ∀ W, Calls Tryz.prog 14 #[] W fun e w' => e = .returned (.agg #[.int .i64 0, .int .i64 0, .string ⟨#[]⟩]) ∧ Below W.heap.size W w' := fun W => pNull_any W
     (refine wp_region_after (by kernel_rfl) (by kernel_rfl) ?_; (repeat (go_big_quiet_step ((go_at_call 14; exact calls_after (HN _))))); refine wpQuiet_nil ?_; intro wq hw0; obtain ⟨⟨wq0, hbq⟩, hw1⟩ := hw0; subst hw1; (try dsimp only))
     have B5 := hbr.trans ((bV.trans (hbq.mono bV.size)).mono hbN)
     go_wp2
     go_roundw
     case rel => exact ⟨k + 1, ps, by omega, by go_num, by omega, Lib.hid (HCO.out.trans (by rw [HD1.out])), Lib.hid (own_below HO.out (bV.trans (hbq.mono bV.size))), HK, B5⟩
     case measure => simp [intOf]; omega
    ·rw [decide_eq_false hv] at q1
     have HD1 := Lib.hid (by have := HD.out; rw [if_pos rfl, if_neg hv] at this; exact this : coF (es.drop k) = [⟨1, an, (av1, av2, av3), anm, aargs⟩])
     clear HD hv
     go_upto_region 5 with fail
     generalize wr.alloc (.cells #[.int .i64 1, .int .i64 an, .int .i64 av1, .int .i64 av2, .string av3, .string anm, .slice A3 aargs.length c3] 26) = V at *
     have HN : ∀ W, Calls Tryz.prog 14 #[] W fun e w' => e = .returned (.agg #[.int .i64 0, .int .i64 0, .string ⟨#[]⟩]) ∧ Below W.heap.size W w' := fun W => pNull_any W
     (refine wp_region_after (by kernel_rfl) (by kernel_rfl) ?_; (repeat (go_big_quiet_step ((go_at_call 14; exact calls_after (HN _))))); refine wpQuiet_nil ?_; intro wq hw0; obtain ⟨⟨wq0, hbq⟩, hw1⟩ := hw0; subst hw1; (try dsimp only))
     have e0 := f0 ⟨wq, hbq⟩
     have e1 := f1 ⟨wq, hbq⟩
     have e2 := f2 ⟨wq, hbq⟩
     have e3 := f3 ⟨wq, hbq⟩
     have e4 := f4 ⟨wq, hbq⟩
     have e5 := f5 ⟨wq, hbq⟩
     have e6 := f6 ⟨wq, hbq⟩
     dsimp only at e0 e1 e2 e3 e4 e5 e6
     have HOL := Lib.hid (ownX_lt HO.out)
     have hqz := Nat.le_trans bV.size hbq.size
     have hqz2 := hbq.size
     have bq : Below wr.heap.size wr wq := bV.trans (hbq.mono bV.size)
     have HOq := Lib.hid (World.ownsRow.alloc (own_below HO.out bq) (.cells #[.int .i64 1, .int .i64 an, .int .i64 av1, .int .i64 av2, .string av3, .string anm, .slice A3 aargs.length c3] 26))
     have HBq := Lib.hid (hbr.trans ((bq.trans ((bel_mk wq (.cells #[.int .i64 1, .int .i64 an, .int .i64 av1, .int .i64 av2, .string av3, .string anm, .slice A3 aargs.length c3] 26)).mono bq.size)).mono hbN))
     have HE0q := Lib.hid ((bel_mk wq (.cells #[.int .i64 1, .int .i64 an, .int .i64 av1, .int .i64 av2, .string av3, .string anm, .slice A3 aargs.length c3] 26)).cell (p := ⟨wr.heap.size, 0, none⟩) (by show wr.heap.size < _; omega) |>.trans e0)
     have HC9 := Lib.hid (show coF es = (ps ++ [((⟨1, an, (av1, av2, av3), anm, aargs⟩, .slice A3 aargs.length c3) : ExU)]).map (·.1)  by rw [HCO.out, HD1.out, List.map_append]; rfl)
     have HK9 := Lib.hid (show ∀ p ∈ ps ++ [((⟨1, an, (av1, av2, av3), anm, aargs⟩, .slice A3 aargs.length c3) : ExU)], RdE w L w.heap.size d p.2 p.1.args from fun p hp => by
      rcases List.mem_append.1 hp with hp | hp
      ·exact HK.out p hp
      ·rw [List.mem_singleton.1 hp]; exact HX.out)
     have hwN : N ≤ wq.heap.size := by omega
     clear HCO HD1 HK f0 f1 f2 f3 f4 f5 f6 x0 x1 x2 x3 x4 x5 x6 q1 HX
     go_upto_region 7 with (at_builtin; go_loud ((refine append_ex1 _ rfl _ _ rfl N _ ps rfl HOq.out wq.heap.size 1 ((⟨1, an, (av1, av2, av3), anm, aargs⟩, .slice A3 aargs.length c3) : ExU) ⟨_, _, _, rfl⟩ rfl (lit_ex wq ((⟨1, an, (av1, av2, av3), anm, aargs⟩, .slice A3 aargs.length c3) : ExU)) ?_ ?_ ?_); (focus omega); (focus (simp only [World.size_alloc]; omega)); intro g5 cap5 w5 hown5 hg5 hv5; have k0 := (World.grownBy.cell_far hg5 ⟨wr.heap.size, 0, none⟩ (by show wr.heap.size < _; simp only [World.size_alloc]; omega) (fun e => absurd (HOL.out _ e.symm) (Nat.lt_irrefl _))).trans HE0q.out; have B5 := HBq.out.grown hg5 (by simp only [World.size_alloc]; omega) (fun b hb => (World.ownsRow.lt HO.out b hb).1)))
     have z9 := Own.below HZ0.out B5 (show w.heap.size + 1 < _ by have := HZS.out; omega)
     have e9 := Own.below HE0.out B5 (show w.heap.size < _ by have := HZS.out; omega)
     have B9 : Below w.heap.size w w5 := HB0.out.trans (B5.mono hNw)
     have hPL : (ps.length + 1) ≤ 1099511627776 := by omega
     have hB5s := B5.size
     by_cases hl0 : ps.length = 0
     ·obtain rfl := List.eq_nil_of_length_eq_zero hl0
      simp only [List.nil_append, List.length_nil, Nat.zero_add, List.length_singleton, List.map_cons, List.map_nil] at *
      have HS := Lib.hid (show R = ⟨1, an, (av1, av2, av3), anm, aargs⟩ from HR.out.symm.trans (simF_one HC9.out))
      have HRR := Lib.hid (HK9.out _ (List.mem_singleton.2 rfl))
      have hown := hown5
      clear hl0 hown5
      have C := fun j u hu => World.ownsRow.cells hown rfl j u hu
      simp only [addX] at C
      have rc0 := C 0 _ rfl
      have rc1 := C 1 _ rfl
      have rc2 := C 2 _ rfl
      have rc3 := C 3 _ rfl
      have rc4 := C 4 _ rfl
      have rc5 := C 5 _ rfl
      have rc6 := C 6 _ rfl
      dsimp only at rc0 rc1 rc2 rc3 rc4 rc5 rc6
      have zz0 := z9.cell 0
      have zz1 := z9.cell 1
      have zz2 := z9.cell 2
      have zz3 := z9.cell 3
      have zz4 := z9.cell 4
      have zz5 := z9.cell 5
      have zz6 := z9.cell 6
      have mm0 := z9.free 0
      have mm1 := z9.free 1
      have mm2 := z9.free 2
      have mm3 := z9.free 3
      have mm4 := z9.free 4
      have mm5 := z9.free 5
      have mm6 := z9.free 6
      have HX := Lib.hid (((((((z9.store 0 (.int .i64 1)).store 1 (.int .i64 an)).store 2 (.int .i64 av1)).store 3 (.int .i64 av2)).store 4 (.string av3)).store 5 (.string anm)).store 6 (.slice A3 aargs.length c3))
      have HF := Lib.hid (((((((B9.sc (w.heap.size + 1) 0 (.int .i64 1)).sc (w.heap.size + 1) 1 (.int .i64 an)).sc (w.heap.size + 1) 2 (.int .i64 av1)).sc (w.heap.size + 1) 3 (.int .i64 av2)).sc (w.heap.size + 1) 4 (.string av3)).sc (w.heap.size + 1) 5 (.string anm)).sc (w.heap.size + 1) 6 (.slice A3 aargs.length c3))
      clear C hown z9 B9 HE0 HZ0 HB0 HZS HO HR B5 e9 HC9 HK9 hg5 hv5 HBq HOq HOL HE0q
      go_wp2
      (try simp only [Exit.inBlock, Exit.then]); refine bodyPost_ret_by (results_cell_row1 (by rfl) _ _ (w.heap.size + 1) _ (by rfl) (load_ex HX.out)) ?_ ?_; (focus rfl); refine ⟨.slice A3 aargs.length c3, by rw [HS.out]; rfl, ?_, HF.out⟩
      have hf := (HRR.out.below HF.out).more HF.out.size (Nat.le_refl _)
      simp only [World.size_setCell] at hf ⊢
      rw [HS.out]
      exact hf.up1
     ·have HCF := Lib.hid (show (coF es).length ≠ 1 by rw [HC9.out, List.length_map, List.length_append]; simp; intro hq; exact hl0 (by rw [hq]; rfl))
      have HS := Lib.hid (show R = ⟨op, n, (k1, k2, s), nm, (ps ++ [((⟨1, an, (av1, av2, av3), anm, aargs⟩, .slice A3 aargs.length c3) : ExU)]).map (·.1)⟩ from HR.out.symm.trans ((simF_ne (e := ⟨op, n, (k1, k2, s), nm, es⟩) HCF.out).trans (by rw [← HC9.out])))
      have HO9 := Lib.hid hown5
      have hql : (ps ++ [((⟨1, an, (av1, av2, av3), anm, aargs⟩, .slice A3 aargs.length c3) : ExU)]).length = ps.length + 1 := by simp
      generalize ps ++ [((⟨1, an, (av1, av2, av3), anm, aargs⟩, .slice A3 aargs.length c3) : ExU)] = qs at *
      have hl1b : (((ps.length + 1 : Nat) : Int) == 1) = false := by simp; omega
      generalize ps.length + 1 = m at *
      have hPL2 : qs.length ≤ 1099511627776 := by omega
      have hPL := hPL2
      clear hown5 hl0
      have zz0 := z9.cell 0
      have zz1 := z9.cell 1
      have zz2 := z9.cell 2
      have zz3 := z9.cell 3
      have zz4 := z9.cell 4
      have zz5 := z9.cell 5
      have zz6 := z9.cell 6
      have mm0 := z9.free 0
      have mm1 := z9.free 1
      have mm2 := z9.free 2
      have mm3 := z9.free 3
      have mm4 := z9.free 4
      have mm5 := z9.free 5
      have mm6 := z9.free 6
      have ee0 := e9.cell 0
      have ee1 := e9.cell 1
      have ee2 := e9.cell 2
      have ee3 := e9.cell 3
      have ee4 := e9.cell 4
      have ee5 := e9.cell 5
      have ee6 := e9.cell 6
      have ef6 := e9.free 6
      have HX := Lib.hid ((((((((z9.far (p := ⟨w.heap.size, 6, none⟩) (by show w.heap.size + 1 ≠ w.heap.size; omega) (.slice (some ⟨g5, 0, none⟩) m cap5)).store 0 (.int .i64 op)).store 1 (.int .i64 n)).store 2 (.int .i64 k1)).store 3 (.int .i64 k2)).store 4 (.string s)).store 5 (.string nm)).store 6 (.slice (some ⟨g5, 0, none⟩) m cap5))
      have HF := Lib.hid ((((((((B9.sc w.heap.size 6 (.slice (some ⟨g5, 0, none⟩) m cap5)).sc (w.heap.size + 1) 0 (.int .i64 op)).sc (w.heap.size + 1) 1 (.int .i64 n)).sc (w.heap.size + 1) 2 (.int .i64 k1)).sc (w.heap.size + 1) 3 (.int .i64 k2)).sc (w.heap.size + 1) 4 (.string s)).sc (w.heap.size + 1) 5 (.string nm)).sc (w.heap.size + 1) 6 (.slice (some ⟨g5, 0, none⟩) m cap5))
      have HG := Lib.hid (own_farX (own_farX (own_farX (own_farX (own_farX (own_farX (own_farX (own_farX HO9.out (p := ⟨w.heap.size, 6, none⟩) (by show w.heap.size < N; omega) (.slice (some ⟨g5, 0, none⟩) m cap5)) (p := ⟨w.heap.size + 1, 0, none⟩) (by show w.heap.size + 1 < N; omega) (.int .i64 op)) (p := ⟨w.heap.size + 1, 1, none⟩) (by show w.heap.size + 1 < N; omega) (.int .i64 n)) (p := ⟨w.heap.size + 1, 2, none⟩) (by show w.heap.size + 1 < N; omega) (.int .i64 k1)) (p := ⟨w.heap.size + 1, 3, none⟩) (by show w.heap.size + 1 < N; omega) (.int .i64 k2)) (p := ⟨w.heap.size + 1, 4, none⟩) (by show w.heap.size + 1 < N; omega) (.string s)) (p := ⟨w.heap.size + 1, 5, none⟩) (by show w.heap.size + 1 < N; omega) (.string nm)) (p := ⟨w.heap.size + 1, 6, none⟩) (by show w.heap.size + 1 < N; omega) (.slice (some ⟨g5, 0, none⟩) m cap5))
      clear z9 e9 B9 HE0 HZ0 HB0 HZS HR HCF HC9 B5 HO hg5 hv5 HBq HOq HOL HE0q hql hPL2
      go_wp2
      (try simp only [Exit.inBlock, Exit.then]); refine bodyPost_ret_by (results_cell_row1 (by rfl) _ _ (w.heap.size + 1) _ (by rfl) (load_ex HX.out)) ?_ ?_; (focus rfl); refine ⟨.slice (some ⟨g5, 0, none⟩) m cap5, by rw [HS.out]; rfl, ?_, HF.out⟩
      have hf := rdE_ownL HG.out hLN hPL (fun p hp => ((HK9.out p hp).below HF.out).more HF.out.size (Nat.le_refl _))
      simp only [World.size_setCell] at hf ⊢
      rw [HS.out]
      exact hf
   ·have h1b : (aop == 1) = false := by simpa using h1
    have HD1 := Lib.hid (by have := HD.out; rw [if_neg h1] at this; exact this : coF (es.drop k) = ⟨aop, an, (av1, av2, av3), anm, aargs⟩ :: coF (es.drop (k + 1)))
    clear h1 HD
    go_upto_region 5 with fail
    generalize wr.alloc (.cells #[.int .i64 aop, .int .i64 an, .int .i64 av1, .int .i64 av2, .string av3, .string anm, .slice A3 aargs.length c3] 26) = V at *
    (refine wp_region_after (by kernel_rfl) (by kernel_rfl) ?_; (repeat (go_big_quiet_step (fail))); refine wpQuiet_nil ?_; intro wq hw0; obtain ⟨⟨wq0, hbq⟩, hw1⟩ := hw0; subst hw1; (try dsimp only))
    have e0 := f0 ⟨wq, hbq⟩
    have e1 := f1 ⟨wq, hbq⟩
    have e2 := f2 ⟨wq, hbq⟩
    have e3 := f3 ⟨wq, hbq⟩
    have e4 := f4 ⟨wq, hbq⟩
    have e5 := f5 ⟨wq, hbq⟩
    have e6 := f6 ⟨wq, hbq⟩
    dsimp only at e0 e1 e2 e3 e4 e5 e6
    have HOL := Lib.hid (ownX_lt HO.out)
    have hqz := Nat.le_trans bV.size hbq.size
    have hqz2 := hbq.size
    have bq : Below wr.heap.size wr wq := bV.trans (hbq.mono bV.size)
    have HOq := Lib.hid (World.ownsRow.alloc (own_below HO.out bq) (.cells #[.int .i64 aop, .int .i64 an, .int .i64 av1, .int .i64 av2, .string av3, .string anm, .slice A3 aargs.length c3] 26))
    have HBq := Lib.hid (hbr.trans ((bq.trans ((bel_mk wq (.cells #[.int .i64 aop, .int .i64 an, .int .i64 av1, .int .i64 av2, .string av3, .string anm, .slice A3 aargs.length c3] 26)).mono bq.size)).mono hbN))
    have HE0q := Lib.hid ((bel_mk wq (.cells #[.int .i64 aop, .int .i64 an, .int .i64 av1, .int .i64 av2, .string av3, .string anm, .slice A3 aargs.length c3] 26)).cell (p := ⟨wr.heap.size, 0, none⟩) (by show wr.heap.size < _; omega) |>.trans e0)
    have HC9 := Lib.hid (show coF es = (ps ++ [((⟨aop, an, (av1, av2, av3), anm, aargs⟩, .slice A3 aargs.length c3) : ExU)]).map (·.1) ++ coF (es.drop (k + 1)) by rw [HCO.out, HD1.out, List.map_append, List.append_assoc]; rfl)
    have HK9 := Lib.hid (show ∀ p ∈ ps ++ [((⟨aop, an, (av1, av2, av3), anm, aargs⟩, .slice A3 aargs.length c3) : ExU)], RdE w L w.heap.size d p.2 p.1.args from fun p hp => by
     rcases List.mem_append.1 hp with hp | hp
     ·exact HK.out p hp
     ·rw [List.mem_singleton.1 hp]; exact HX.out)
    have hwN : N ≤ wq.heap.size := by omega
    clear HCO HD1 HK f0 f1 f2 f3 f4 f5 f6 x0 x1 x2 x3 x4 x5 x6 q1 HX
    go_wp2_with (at_builtin; go_loud ((refine append_ex1 _ rfl _ _ rfl N _ ps rfl HOq.out wq.heap.size 1 ((⟨aop, an, (av1, av2, av3), anm, aargs⟩, .slice A3 aargs.length c3) : ExU) ⟨_, _, _, rfl⟩ rfl (lit_ex wq ((⟨aop, an, (av1, av2, av3), anm, aargs⟩, .slice A3 aargs.length c3) : ExU)) ?_ ?_ ?_); (focus omega); (focus (simp only [World.size_alloc]; omega)); intro g5 cap5 w5 hown5 hg5 hv5; have k0 := (World.grownBy.cell_far hg5 ⟨wr.heap.size, 0, none⟩ (by show wr.heap.size < _; simp only [World.size_alloc]; omega) (fun e => absurd (HOL.out _ e.symm) (Nat.lt_irrefl _))).trans HE0q.out; have B5 := HBq.out.grown hg5 (by simp only [World.size_alloc]; omega) (fun b hb => (World.ownsRow.lt HO.out b hb).1)))
    go_roundw
    case rel => exact ⟨k + 1, ps ++ [(⟨aop, an, (av1, av2, av3), anm, aargs⟩, .slice A3 aargs.length c3)], by omega, by go_num, by simp; omega, HC9, by rw [List.length_append] at hown5 ⊢; exact Lib.hid hown5, HK9, B5⟩
    case measure => simp [intOf]; omega
  ·have hd : ¬ (k : Int) < es.length := by omega
   have hdr : es.drop k = [] := List.drop_eq_nil_of_le (by omega)
   have HCF := Lib.hid (show coF es = ps.map (·.1) by rw [HCO.out, hdr]; show _ ++ coF [] = _; unfold coF; rw [List.append_nil])
   have hPL : ps.length ≤ 1099511627776 := by omega
   clear HCO hdr
   have z9 := Own.below HZ0.out hbr (show w.heap.size + 1 < _ by have := HZS.out; omega)
   have e9 := Own.below HE0.out hbr (show w.heap.size < _ by have := HZS.out; omega)
   have B9 : Below w.heap.size w wr := HB0.out.trans (hbr.mono hNw)
   by_cases hl1 : ps.length = 1
   ·obtain ⟨⟨r, ur⟩, hps⟩ := List.length_eq_one_iff.1 hl1
    subst hps
    have HS := Lib.hid (show R = r from HR.out.symm.trans (simF_one HCF.out))
    have HRR := Lib.hid (HK.out (r, ur) (by simp))
    obtain ⟨Ar, cr, hur, _⟩ := HRR.out.slice
    dsimp only at hur
    subst hur
    have hown := HO.out
    obtain ⟨g, cap, ho⟩ := own_blk hown (by simp)
    subst ho
    simp only [List.length_singleton] at *
    have C := fun j u hu => World.ownsRow.cells hown rfl j u hu
    simp only [addX] at C
    have rc0 := C 0 _ rfl
    have rc1 := C 1 _ rfl
    have rc2 := C 2 _ rfl
    have rc3 := C 3 _ rfl
    have rc4 := C 4 _ rfl
    have rc5 := C 5 _ rfl
    have rc6 := C 6 _ rfl
    dsimp only at rc0 rc1 rc2 rc3 rc4 rc5 rc6
    have zz0 := z9.cell 0
    have zz1 := z9.cell 1
    have zz2 := z9.cell 2
    have zz3 := z9.cell 3
    have zz4 := z9.cell 4
    have zz5 := z9.cell 5
    have zz6 := z9.cell 6
    have mm0 := z9.free 0
    have mm1 := z9.free 1
    have mm2 := z9.free 2
    have mm3 := z9.free 3
    have mm4 := z9.free 4
    have mm5 := z9.free 5
    have mm6 := z9.free 6
    have HX := Lib.hid (((((((z9.store 0 (.int .i64 r.op)).store 1 (.int .i64 r.n)).store 2 (.int .i64 r.v.1)).store 3 (.int .i64 r.v.2.1)).store 4 (.string r.v.2.2)).store 5 (.string r.nm)).store 6 (.slice Ar r.args.length cr))
    have HF := Lib.hid (((((((B9.sc (w.heap.size + 1) 0 (.int .i64 r.op)).sc (w.heap.size + 1) 1 (.int .i64 r.n)).sc (w.heap.size + 1) 2 (.int .i64 r.v.1)).sc (w.heap.size + 1) 3 (.int .i64 r.v.2.1)).sc (w.heap.size + 1) 4 (.string r.v.2.2)).sc (w.heap.size + 1) 5 (.string r.nm)).sc (w.heap.size + 1) 6 (.slice Ar r.args.length cr))
    clear C hown z9 B9 HE0 HZ0 HB0 HZS HO HK HR HCF hbr e9
    go_wp2
    (try simp only [Exit.inBlock, Exit.then]); refine bodyPost_ret_by (results_cell_row1 (by rfl) _ _ (w.heap.size + 1) _ (by rfl) (load_ex HX.out)) ?_ ?_; (focus rfl); refine ⟨.slice Ar r.args.length cr, by rw [HS.out]; rfl, ?_, HF.out⟩
    have hf := (HRR.out.below HF.out).more HF.out.size (Nat.le_refl _)
    simp only [World.size_setCell] at hf ⊢
    rw [HS.out]
    exact hf.up1
   ·have HS := Lib.hid (show R = _ from HR.out.symm.trans (simF_ne (e := ⟨op, n, (k1, k2, s), nm, es⟩) (by show (coF es).length ≠ 1; rw [HCF.out, List.length_map]; exact hl1)))
    have HS2 := Lib.hid (show R = ⟨op, n, (k1, k2, s), nm, ps.map (·.1)⟩ by rw [HS.out, HCF.out])
    clear HS
    have HS := HS2
    obtain ⟨Ao, co, ho⟩ := ownX_shape HO.out
    subst ho
    have hl1b : ((ps.length : Int) == 1) = false := by simp; omega
    clear hl1
    have zz0 := z9.cell 0
    have zz1 := z9.cell 1
    have zz2 := z9.cell 2
    have zz3 := z9.cell 3
    have zz4 := z9.cell 4
    have zz5 := z9.cell 5
    have zz6 := z9.cell 6
    have mm0 := z9.free 0
    have mm1 := z9.free 1
    have mm2 := z9.free 2
    have mm3 := z9.free 3
    have mm4 := z9.free 4
    have mm5 := z9.free 5
    have mm6 := z9.free 6
    have ee0 := e9.cell 0
    have ee1 := e9.cell 1
    have ee2 := e9.cell 2
    have ee3 := e9.cell 3
    have ee4 := e9.cell 4
    have ee5 := e9.cell 5
    have ee6 := e9.cell 6
    have ef6 := e9.free 6
    have HX := Lib.hid ((((((((z9.far (p := ⟨w.heap.size, 6, none⟩) (by show w.heap.size + 1 ≠ w.heap.size; omega) (.slice Ao ps.length co)).store 0 (.int .i64 op)).store 1 (.int .i64 n)).store 2 (.int .i64 k1)).store 3 (.int .i64 k2)).store 4 (.string s)).store 5 (.string nm)).store 6 (.slice Ao ps.length co))
    have HF := Lib.hid ((((((((B9.sc w.heap.size 6 (.slice Ao ps.length co)).sc (w.heap.size + 1) 0 (.int .i64 op)).sc (w.heap.size + 1) 1 (.int .i64 n)).sc (w.heap.size + 1) 2 (.int .i64 k1)).sc (w.heap.size + 1) 3 (.int .i64 k2)).sc (w.heap.size + 1) 4 (.string s)).sc (w.heap.size + 1) 5 (.string nm)).sc (w.heap.size + 1) 6 (.slice Ao ps.length co))
    have HG := Lib.hid (own_farX (own_farX (own_farX (own_farX (own_farX (own_farX (own_farX (own_farX HO.out (p := ⟨w.heap.size, 6, none⟩) (by show w.heap.size < N; omega) (.slice Ao ps.length co)) (p := ⟨w.heap.size + 1, 0, none⟩) (by show w.heap.size + 1 < N; omega) (.int .i64 op)) (p := ⟨w.heap.size + 1, 1, none⟩) (by show w.heap.size + 1 < N; omega) (.int .i64 n)) (p := ⟨w.heap.size + 1, 2, none⟩) (by show w.heap.size + 1 < N; omega) (.int .i64 k1)) (p := ⟨w.heap.size + 1, 3, none⟩) (by show w.heap.size + 1 < N; omega) (.int .i64 k2)) (p := ⟨w.heap.size + 1, 4, none⟩) (by show w.heap.size + 1 < N; omega) (.string s)) (p := ⟨w.heap.size + 1, 5, none⟩) (by show w.heap.size + 1 < N; omega) (.string nm)) (p := ⟨w.heap.size + 1, 6, none⟩) (by show w.heap.size + 1 < N; omega) (.slice Ao ps.length co))
    clear z9 e9 B9 HE0 HZ0 HB0 HZS HR HCF hbr HS2
    go_wp2
    (try simp only [Exit.inBlock, Exit.then]); refine bodyPost_ret_by (results_cell_row1 (by rfl) _ _ (w.heap.size + 1) _ (by rfl) (load_ex HX.out)) ?_ ?_; (focus rfl); refine ⟨.slice Ao ps.length co, by rw [HS.out]; rfl, ?_, HF.out⟩
    have hf := rdE_ownL HG.out hLN hPL (fun p hp => ((HK.out p hp).below HF.out).more HF.out.size (Nat.le_refl _))
    simp only [World.size_setCell] at hf ⊢
    rw [HS.out]
    exact hf
end Go.Proofs.YtdhemhmgenhmaaaGreat
