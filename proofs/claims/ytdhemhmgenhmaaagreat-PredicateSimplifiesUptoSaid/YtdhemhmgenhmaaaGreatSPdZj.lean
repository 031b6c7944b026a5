import Derived.Test.YtdhemhmgenhmaaaGreatSPdZd
import Derived.Test.YtdhemhmgenhmaaaGreatMV
import Derived.WalkKit
import Derived.WalkSpells
import Derived.WalkLawsBesides
import Derived.Deep.QuietTactic
import Derived.BigQuiet
import Derived.Handy
import Derived.Lib.Hide
set_option maxRecDepth 100000
set_option maxHeartbeats 25600000
set_option linter.unusedVariables false
set_option linter.unusedSimpArgs false
/-
  simpleJunction: a conjunction or a disjunction, simplified. Conditions: lengths. (Written by mkPdZj.py.)
-/
namespace Go.Proofs.YtdhemhmgenhmaaaGreat
open Go.RowKit
theorem juF_drop {op : Int} {es : List Ex} {k : Nat} {a : Ex} (h : es[k]? = some a) : juF op (es.drop k) = if a.op ≠ 1 then (juF op (es.drop (k + 1))).map (a :: ·) else if truC a = Va.vnot (neuT op) then none else if truC a = 1 then (juF op (es.drop (k + 1))).map (a :: ·) else juF op (es.drop (k + 1)) := by
 obtain ⟨h1, rfl⟩ := List.getElem?_eq_some_iff.1 h
 rw [List.drop_eq_getElem_cons h1]
 conv => lhs; unfold juF
theorem ju_add {op : Int} {es : List Ex} {pre : List Ex} {a : Ex} {o q : Option (List Ex)} (h : juF op es = o.map (pre ++ ·)) (ho : o = q.map (a :: ·)) : juF op es = q.map ((pre ++ [a]) ++ ·) := by
 rw [h, ho]
 cases q with
 | none => rfl
 | some l => simp
theorem simJ_none {e : Ex} (h : juF e.op e.args = none) : simJ e = conX (ofP (Va.vnot (neuT e.op))) := by unfold simJ; rw [h]
theorem simJ_one {e r : Ex} (h : juF e.op e.args = some [r]) : simJ e = if isT r.op then r else { e with args := [r, conX (ofP (neuT e.op))] } := by unfold simJ; rw [h]
theorem simJ_ne {e : Ex} {l : List Ex} (h : juF e.op e.args = some l) (hl : l.length ≠ 1) : simJ e = { e with args := l } := by
 unfold simJ
 rw [h]
 split
 ·next he => cases he
 ·next r hr => injection hr with hr; rw [hr] at hl; exact absurd rfl hl
 ·next q hq => injection hq with hq; rw [hq]
theorem pJun5_any (n k1 k2 : Int) (s nm : ByteArray) (es : List Ex) (d : Nat) (u : Value) (w : World) (L : Nat) (hL : L ≤ w.heap.size) (h : RdE w L w.heap.size (d + 1) u es) :
  Calls Tryz.prog 16 #[exV ⟨5, n, (k1, k2, s), nm, es⟩ u] w (RetY w L (d + 1) (simJ ⟨5, n, (k1, k2, s), nm, es⟩)) := by
 obtain ⟨A, cc, rfl, hl, hc⟩ := h
 have HC := Lib.hid hc
 clear hc
 unfold exV
 dsimp only
 obtain ⟨N, hN⟩ : ∃ N, N = w.heap.size + 1 + 1 := ⟨_, rfl⟩
 have hLN : L ≤ N := by omega
 have b0 := (((Below.refl w.heap.size w).alloc (by first | omega | (simp only [World.size_alloc]; omega)) (.cells #[.int .i64 5, .int .i64 n, .int .i64 k1, .int .i64 k2, .string s, .string nm, .slice A es.length cc] 26)).alloc (by first | omega | (simp only [World.size_alloc]; omega)) (.cells #[.int .i64 0, .int .i64 0, .int .i64 0, .int .i64 0, .string ⟨#[]⟩, .string ⟨#[]⟩, .slice none 0 0] 26))
 have zs0 : ((w.alloc (.cells #[.int .i64 5, .int .i64 n, .int .i64 k1, .int .i64 k2, .string s, .string nm, .slice A es.length cc] 26)).alloc (.cells #[.int .i64 0, .int .i64 0, .int .i64 0, .int .i64 0, .string ⟨#[]⟩, .string ⟨#[]⟩, .slice none 0 0] 26)).heap.size = N := by rw [hN]; simp only [World.size_alloc]
 have oE0 : Own ((w.alloc (.cells #[.int .i64 5, .int .i64 n, .int .i64 k1, .int .i64 k2, .string s, .string nm, .slice A es.length cc] 26)).alloc (.cells #[.int .i64 0, .int .i64 0, .int .i64 0, .int .i64 0, .string ⟨#[]⟩, .string ⟨#[]⟩, .slice none 0 0] 26)) w.heap.size 26 #[.int .i64 5, .int .i64 n, .int .i64 k1, .int .i64 k2, .string s, .string nm, .slice A es.length cc] := by
  have := ((Own.new w 26 #[.int .i64 5, .int .i64 n, .int .i64 k1, .int .i64 k2, .string s, .string nm, .slice A es.length cc]).alloc (.cells #[.int .i64 0, .int .i64 0, .int .i64 0, .int .i64 0, .string ⟨#[]⟩, .string ⟨#[]⟩, .slice none 0 0] 26))
  simpa only [World.size_alloc] using this
 have oZ0 : Own ((w.alloc (.cells #[.int .i64 5, .int .i64 n, .int .i64 k1, .int .i64 k2, .string s, .string nm, .slice A es.length cc] 26)).alloc (.cells #[.int .i64 0, .int .i64 0, .int .i64 0, .int .i64 0, .string ⟨#[]⟩, .string ⟨#[]⟩, .slice none 0 0] 26)) (w.heap.size + 1) 26 #[.int .i64 0, .int .i64 0, .int .i64 0, .int .i64 0, .string ⟨#[]⟩, .string ⟨#[]⟩, .slice none 0 0] := by
  have := (Own.new (w.alloc (.cells #[.int .i64 5, .int .i64 n, .int .i64 k1, .int .i64 k2, .string s, .string nm, .slice A es.length cc] 26)) 26 #[.int .i64 0, .int .i64 0, .int .i64 0, .int .i64 0, .string ⟨#[]⟩, .string ⟨#[]⟩, .slice none 0 0])
  simpa only [World.size_alloc] using this
 have y0 := oE0.cell 0
 have y6 := oE0.cell 6
 have HE0 := Lib.hid oE0
 have HZ0 := Lib.hid oZ0
 have HB0 := Lib.hid b0
 have HZS := Lib.hid zs0
 clear b0 oE0 oZ0 zs0
 generalize hR : simJ ⟨5, n, (k1, k2, s), nm, es⟩ = R at *
 have HR := Lib.hid hR
 clear hR
 go_enter Tryz.func16, Tryz.ntmps16
 go_upto_region 6 with fail
 generalize ((w.alloc (.cells #[.int .i64 5, .int .i64 n, .int .i64 k1, .int .i64 k2, .string s, .string nm, .slice A es.length cc] 26)).alloc (.cells #[.int .i64 0, .int .i64 0, .int .i64 0, .int .i64 0, .string ⟨#[]⟩, .string ⟨#[]⟩, .slice none 0 0] 26)) = W0 at *
 clear y6 y0
 go_loopw [4, 13] (fun o i wr => ∃ (k : Nat) (ps : List ExU), k ≤ es.length ∧ i = .int .i64 k ∧ ps.length ≤ k ∧ Hid (juF 5 es = (juF 5 (es.drop k)).map (ps.map (·.1) ++ ·)) ∧ Hid (wr.ownsRow N 26 7 o ps.length (flatE ps)) ∧ Hid (∀ p ∈ ps, RdE w L w.heap.size d p.2 p.1.args) ∧ Below N W0 wr) (fun _ i _ => es.length - (intOf i).toNat)
 case atStart => exact ⟨0, [], Nat.zero_le _, rfl, Nat.le_refl _, Lib.hid (by rw [List.drop_zero, List.map_nil]; cases juF 5 es <;> rfl), Lib.hid (World.ownsRow_nil W0 N 26 7), Lib.hid (fun p hp => by simp at hp), Below.refl _ _⟩
 case round =>
  obtain ⟨k, ps, hk, rfl, hpk, HCO, HO, HK, hbr⟩ := hrel
  have hbz := hbr.size
  have hbN : N ≤ wr.heap.size := by have := HZS.out; omega
  have hNw : w.heap.size ≤ N := by omega
  by_cases hlt : k < es.length
  ·have hki : (k : Int) < es.length := by omega
   have hki0 : (0 : Int) ≤ (k : Int) := by omega
   have hx := List.getElem?_eq_getElem hlt
   obtain ⟨ad, x, rfl, _, hab, hxc, hxr⟩ := HC.out k _ hx
   have hd := juF_drop (op := 5) hx
   rw [show Va.vnot (neuT 5) = 0 from rfl] at hd
   generalize es[k] = y at *
   obtain ⟨aop, an, ⟨av1, av2, av3⟩, anm, aargs⟩ := y
   dsimp only at hd
   obtain ⟨A3, c3, rfl, _⟩ := hxr.slice
   have bwr : Below w.heap.size w wr := HB0.out.trans (hbr.mono hNw)
   obtain ⟨x0, x1, x2, x3, x4, x5, x6⟩ := hxc.below bwr (by rw [add_blk]; exact hab)
   dsimp only at x0 x1 x2 x3 x4 x5 x6
   have bV : Below wr.heap.size wr (wr.alloc (.cells #[.int .i64 aop, .int .i64 an, .int .i64 av1, .int .i64 av2, .string av3, .string anm, .slice A3 aargs.length c3] 26)) := (Below.refl _ _).alloc (Nat.le_refl _) _
   have oV := Own.new wr 26 #[.int .i64 aop, .int .i64 an, .int .i64 av1, .int .i64 av2, .string av3, .string anm, .slice A3 aargs.length c3]
   have HX := Lib.hid hxr
   have HD := Lib.hid hd
   clear hd hxc hx
   by_cases h1 : aop = 1
   ·subst h1
    have HTr := Lib.hid (fun (W : World) (hb : Below w.heap.size w W) => pTruthE_any (.slice none 0 0) [] d ⟨1, an, (av1, av2, av3), anm, aargs⟩ A3 c3 W L W.heap.size (hxr.step hb (Nat.le_refl _)) (rdV_nil W _ _))
    have ht : truP (evE [] d ⟨1, an, (av1, av2, av3), anm, aargs⟩) = truC ⟨1, an, (av1, av2, av3), anm, aargs⟩ := by obtain ⟨d, rfl⟩ : ∃ k, d = k + 1 := ⟨d - 1, by have := hxr.pos; omega⟩; unfold truC; rw [ev_constZ [] d _ rfl]
    rw [ht] at HTr
    have HTI := Lib.hid (show truC ⟨1, an, (av1, av2, av3), anm, aargs⟩ = 0 ∨ truC ⟨1, an, (av1, av2, av3), anm, aargs⟩ = 1 ∨ truC ⟨1, an, (av1, av2, av3), anm, aargs⟩ = 2 from tru_tri _)
    clear ht hxr
    unfold exV at HTr
    dsimp only at HTr
    generalize truC ⟨1, an, (av1, av2, av3), anm, aargs⟩ = TT at *
    have HNt := Lib.hid (fun W => show Calls Tryz.prog 64 #[.int .i64 2] W (fun e w' => e = .returned (.int .i64 0) ∧ Below W.heap.size W w') from Va.pNot_any 2 W)
    have v0 := oV.cell 0
    have v1 := oV.cell 1
    have v2 := oV.cell 2
    have v3 := oV.cell 3
    have v4 := oV.cell 4
    have v5 := oV.cell 5
    have v6 := oV.cell 6
    have HBV := Lib.hid (hbr.trans (bV.mono hbN))
    have hVs := bV.size
    go_upto_region 10 with fail
    generalize hV : wr.alloc (.cells #[.int .i64 1, .int .i64 an, .int .i64 av1, .int .i64 av2, .string av3, .string anm, .slice A3 aargs.length c3] 26) = V at *
    go_wp2_with fail
    with_reducible refine (HTr.out _ (HB0.out.trans (HBV.out.mono hNw))).mono ?_
    rintro e w5 ⟨rfl, hb5⟩
    have o5 := oV.below hb5 oV.lt
    have b5 := bV.trans (hb5.mono hVs)
    clear v0 v1 v2 v3 v4 v5 v6 HTr hb5 HBV hV
    go_wp2_with fail
    with_reducible refine (HNt.out _).mono ?_
    rintro e w6 ⟨rfl, hb6⟩
    have o6 := o5.below hb6 o5.lt
    have bq : Below wr.heap.size wr w6 := b5.trans (hb6.mono b5.size)
    have hqs : wr.heap.size < w6.heap.size := o6.lt
    clear o5 b5 hb6 oV bV x0 x1 x2 x3 x4 x5 x6
    have HTJ := HTI.out
    clear HTI
    rcases HTJ with rfl | rfl | rfl
    ·have HD1 := Lib.hid (by have := HD.out; rw [if_neg (by simp), if_pos rfl] at this; exact this : juF 5 (es.drop k) = none)
     have HS := Lib.hid (show R = conX (ofP 0) from HR.out.symm.trans (simJ_none (e := ⟨5, n, (k1, k2, s), nm, es⟩) (by show juF 5 es = none; rw [HCO.out, HD1.out]; rfl)))
     clear HD HD1 HCO HX o6 HO HK
     have z9 := Own.below HZ0.out (hbr.trans (bq.mono hbN)) (show w.heap.size + 1 < _ by have := HZS.out; omega)
     have B9 : Below w.heap.size w w6 := HB0.out.trans ((hbr.trans (bq.mono hbN)).mono hNw)
     clear HE0 HZ0 HB0 HZS HR hbr bq
     have HOf := Lib.hid (fun W => eOf 0 W)
     generalize ofP 0 = pv at *
     obtain ⟨p1, p2, p3⟩ := pv
     unfold valV at HOf
     dsimp only at HOf
     have HKc := Lib.hid (fun W => pCon_any p1 p2 p3 W)
     unfold exV conX at HKc
     dsimp only at HKc
     go_wp2_with fail
     with_reducible refine (HNt.out _).mono ?_
     rintro e wa ⟨rfl, hba⟩
     go_wp2_with fail
     with_reducible refine (HOf.out _).mono ?_
     rintro e wb ⟨rfl, hbb⟩
     go_wp2_with fail
     with_reducible refine (HKc.out _).mono ?_
     rintro e wc ⟨rfl, hbc⟩
     have bc := (hba.trans (hbb.mono hba.size)).trans (hbc.mono (Nat.le_trans hba.size hbb.size))
     replace z9 := z9.below bc z9.lt
     replace B9 := B9.trans (bc.mono B9.size)
     clear hba hbb hbc bc HOf HKc HNt
     have zz0 := z9.cell 0
     have zz1 := z9.cell 1
     have zz2 := z9.cell 2
     have zz3 := z9.cell 3
     have zz4 := z9.cell 4
     have zz5 := z9.cell 5
     have zz6 := z9.cell 6
     have mm0 := z9.free 0
     have mm1 := z9.free 1
     have mm2 := z9.free 2
     have mm3 := z9.free 3
     have mm4 := z9.free 4
     have mm5 := z9.free 5
     have mm6 := z9.free 6
     have HX := Lib.hid (((((((z9.store 0 (.int .i64 1)).store 1 (.int .i64 0)).store 2 (.int .i64 p1)).store 3 (.int .i64 p2)).store 4 (.string p3)).store 5 (.string ⟨#[]⟩)).store 6 (.slice none 0 0))
     have HF := Lib.hid (((((((B9.sc (w.heap.size + 1) 0 (.int .i64 1)).sc (w.heap.size + 1) 1 (.int .i64 0)).sc (w.heap.size + 1) 2 (.int .i64 p1)).sc (w.heap.size + 1) 3 (.int .i64 p2)).sc (w.heap.size + 1) 4 (.string p3)).sc (w.heap.size + 1) 5 (.string ⟨#[]⟩)).sc (w.heap.size + 1) 6 (.slice none 0 0))
     clear z9 B9
     go_wp2
     (try simp only [Exit.inBlock, Exit.then]); refine bodyPost_ret_by (results_cell_row1 (by rfl) _ _ (w.heap.size + 1) _ (by rfl) (load_ex HX.out)) ?_ ?_; (focus rfl); refine ⟨.slice none 0 0, by rw [HS.out]; rfl, ?_, HF.out⟩
     rw [HS.out]
     exact ⟨none, 0, rfl, by simp [conX], fun k e hk => by simp [conX] at hk⟩
    ·have HD1 := Lib.hid (by have := HD.out; rw [if_neg (by simp), if_neg (by simp), if_pos rfl] at this; exact this : juF 5 (es.drop k) = (juF 5 (es.drop (k + 1))).map (⟨1, an, (av1, av2, av3), anm, aargs⟩ :: ·))
     clear HD
     have ea0 := o6.cell 0
     have ea1 := o6.cell 1
     have ea2 := o6.cell 2
     have ea3 := o6.cell 3
     have ea4 := o6.cell 4
     have ea5 := o6.cell 5
     have ea6 := o6.cell 6
     have HOL := Lib.hid (ownX_lt HO.out)
     have HOq := Lib.hid (World.ownsRow.alloc (own_below HO.out bq) (.cells #[.int .i64 1, .int .i64 an, .int .i64 av1, .int .i64 av2, .string av3, .string anm, .slice A3 aargs.length c3] 26))
     have HBq := Lib.hid (hbr.trans ((bq.trans ((bel_mk w6 (.cells #[.int .i64 1, .int .i64 an, .int .i64 av1, .int .i64 av2, .string av3, .string anm, .slice A3 aargs.length c3] 26)).mono bq.size)).mono hbN))
     have HC9 := Lib.hid (show juF 5 es = (juF 5 (es.drop (k + 1))).map ((ps ++ [((⟨1, an, (av1, av2, av3), anm, aargs⟩, .slice A3 aargs.length c3) : ExU)]).map (·.1) ++ ·) by rw [List.map_append]; exact ju_add HCO.out HD1.out)
     have HK9 := Lib.hid (show ∀ p ∈ ps ++ [((⟨1, an, (av1, av2, av3), anm, aargs⟩, .slice A3 aargs.length c3) : ExU)], RdE w L w.heap.size d p.2 p.1.args from fun p hp => by
      rcases List.mem_append.1 hp with hp | hp
      ·exact HK.out p hp
      ·rw [List.mem_singleton.1 hp]; exact HX.out)
     have hwN : N ≤ w6.heap.size := by omega
     clear HCO HD1 HK HX o6
     go_wp2_with (at_builtin; go_loud ((refine append_ex1 _ rfl _ _ rfl N _ ps rfl HOq.out w6.heap.size 1 ((⟨1, an, (av1, av2, av3), anm, aargs⟩, .slice A3 aargs.length c3) : ExU) ⟨_, _, _, rfl⟩ rfl (lit_ex w6 ((⟨1, an, (av1, av2, av3), anm, aargs⟩, .slice A3 aargs.length c3) : ExU)) ?_ ?_ ?_); (focus omega); (focus (simp only [World.size_alloc]; omega)); intro g5 cap5 w7 hown5 hg5 hv5; have B5 := HBq.out.grown hg5 (by simp only [World.size_alloc]; omega) (fun b hb => (World.ownsRow.lt HO.out b hb).1)))
     go_roundw
     case rel => exact ⟨k + 1, ps ++ [(⟨1, an, (av1, av2, av3), anm, aargs⟩, .slice A3 aargs.length c3)], by omega, by go_num, by simp; omega, HC9, by rw [List.length_append] at hown5 ⊢; exact Lib.hid hown5, HK9, B5⟩
     case measure => simp [intOf]; omega
    ·have HD1 := Lib.hid (by have := HD.out; rw [if_neg (by simp), if_neg (by simp), if_neg (by simp)] at this; exact this : juF 5 (es.drop k) = juF 5 (es.drop (k + 1)))
     clear HD HX o6
     have B5 := hbr.trans (bq.mono hbN)
     have HOq := Lib.hid (own_below HO.out bq)
     have HC9 := Lib.hid (HCO.out.trans (by rw [HD1.out]))
     clear HCO HD1 HO bq
     go_wp2
     go_roundw
     case rel => exact ⟨k + 1, ps, by omega, by go_num, by omega, HC9, HOq, HK, B5⟩
     case measure => simp [intOf]; omega
   ·have h1b : (aop != 1) = true := by simpa using h1
    have HD1 := Lib.hid (by have := HD.out; rw [if_pos h1] at this; exact this : juF 5 (es.drop k) = (juF 5 (es.drop (k + 1))).map (⟨aop, an, (av1, av2, av3), anm, aargs⟩ :: ·))
    clear h1 HD hxr
    have o6 := oV
    have bq := bV
    have hqs : wr.heap.size < (wr.alloc (.cells #[.int .i64 aop, .int .i64 an, .int .i64 av1, .int .i64 av2, .string av3, .string anm, .slice A3 aargs.length c3] 26)).heap.size := oV.lt
    clear bV
    have v0 := oV.cell 0
    go_upto_region 9 with fail
    clear v0
    generalize wr.alloc (.cells #[.int .i64 aop, .int .i64 an, .int .i64 av1, .int .i64 av2, .string av3, .string anm, .slice A3 aargs.length c3] 26) = w6 at *
    clear oV
    have ea0 := o6.cell 0
    have ea1 := o6.cell 1
    have ea2 := o6.cell 2
    have ea3 := o6.cell 3
    have ea4 := o6.cell 4
    have ea5 := o6.cell 5
    have ea6 := o6.cell 6
    have HOL := Lib.hid (ownX_lt HO.out)
    have HOq := Lib.hid (World.ownsRow.alloc (own_below HO.out bq) (.cells #[.int .i64 aop, .int .i64 an, .int .i64 av1, .int .i64 av2, .string av3, .string anm, .slice A3 aargs.length c3] 26))
    have HBq := Lib.hid (hbr.trans ((bq.trans ((bel_mk w6 (.cells #[.int .i64 aop, .int .i64 an, .int .i64 av1, .int .i64 av2, .string av3, .string anm, .slice A3 aargs.length c3] 26)).mono bq.size)).mono hbN))
    have HC9 := Lib.hid (show juF 5 es = (juF 5 (es.drop (k + 1))).map ((ps ++ [((⟨aop, an, (av1, av2, av3), anm, aargs⟩, .slice A3 aargs.length c3) : ExU)]).map (·.1) ++ ·) by rw [List.map_append]; exact ju_add HCO.out HD1.out)
    have HK9 := Lib.hid (show ∀ p ∈ ps ++ [((⟨aop, an, (av1, av2, av3), anm, aargs⟩, .slice A3 aargs.length c3) : ExU)], RdE w L w.heap.size d p.2 p.1.args from fun p hp => by
     rcases List.mem_append.1 hp with hp | hp
     ·exact HK.out p hp
     ·rw [List.mem_singleton.1 hp]; exact HX.out)
    have hwN : N ≤ w6.heap.size := by omega
    clear HCO HD1 HK HX o6
    go_wp2_with (at_builtin; go_loud ((refine append_ex1 _ rfl _ _ rfl N _ ps rfl HOq.out w6.heap.size 1 ((⟨aop, an, (av1, av2, av3), anm, aargs⟩, .slice A3 aargs.length c3) : ExU) ⟨_, _, _, rfl⟩ rfl (lit_ex w6 ((⟨aop, an, (av1, av2, av3), anm, aargs⟩, .slice A3 aargs.length c3) : ExU)) ?_ ?_ ?_); (focus omega); (focus (simp only [World.size_alloc]; omega)); intro g5 cap5 w7 hown5 hg5 hv5; have B5 := HBq.out.grown hg5 (by simp only [World.size_alloc]; omega) (fun b hb => (World.ownsRow.lt HO.out b hb).1)))
    go_roundw
    case rel => exact ⟨k + 1, ps ++ [(⟨aop, an, (av1, av2, av3), anm, aargs⟩, .slice A3 aargs.length c3)], by omega, by go_num, by simp; omega, HC9, by rw [List.length_append] at hown5 ⊢; exact Lib.hid hown5, HK9, B5⟩
    case measure => simp [intOf]; omega
  ·have hd : ¬ (k : Int) < es.length := by omega
   have hdr : es.drop k = [] := List.drop_eq_nil_of_le (by omega)
   have HCF := Lib.hid (show juF 5 es = some (ps.map (·.1)) by rw [HCO.out, hdr]; unfold juF; simp)
   have hPL : ps.length ≤ 1099511627776 := by omega
   clear HCO hdr
   have z9 := Own.below HZ0.out hbr (show w.heap.size + 1 < _ by have := HZS.out; omega)
   have e9 := Own.below HE0.out hbr (show w.heap.size < _ by have := HZS.out; omega)
   have B9 : Below w.heap.size w wr := HB0.out.trans (hbr.mono hNw)
   by_cases hl1 : ps.length = 1
   ·obtain ⟨⟨r, ur⟩, hps⟩ := List.length_eq_one_iff.1 hl1
    subst hps
    have HRR := Lib.hid (HK.out (r, ur) (by simp))
    obtain ⟨Ar, cr, hur, _⟩ := HRR.out.slice
    dsimp only at hur
    subst hur
    have hown := HO.out
    obtain ⟨g, cap, ho⟩ := own_blk hown (by simp)
    subst ho
    have HSO := Lib.hid (show R = if isT r.op = true then r else ⟨5, n, (k1, k2, s), nm, [r, conX (ofP 2)]⟩ from HR.out.symm.trans (simJ_one HCF.out))
    simp only [List.length_singleton] at *
    have C := fun j u hu => World.ownsRow.cells hown rfl j u hu
    simp only [addX] at C
    have rc0 := C 0 _ rfl
    dsimp only at rc0
    clear C
    go_wp2_with fail
    with_reducible refine (pIsT_any r.op _).mono ?_
    rintro e w5 ⟨rfl, hb5⟩
    replace z9 := z9.below hb5 z9.lt
    replace e9 := e9.below hb5 e9.lt
    replace B9 := B9.trans (hb5.mono B9.size)
    have hown5 := own_below hown hb5
    have HN5 := Lib.hid (Nat.le_trans hbN hb5.size)
    clear hb5 rc0 hown HO HE0 HZ0 HB0 HZS HR hbr
    have HTT := Lib.hid (show isT r.op = isT r.op from rfl)
    generalize isT r.op = TB at *
    cases TB
    ·have HS := Lib.hid (show R = ⟨5, n, (k1, k2, s), nm, [r, conX (ofP 2)]⟩ from HSO.out.trans (if_neg (by simp)))
     clear HSO
     have HOf := Lib.hid (fun W => eOf 2 W)
     generalize ofP 2 = pv at *
     obtain ⟨p1, p2, p3⟩ := pv
     unfold valV at HOf
     dsimp only at HOf
     have HKc := Lib.hid (fun W => pCon_any p1 p2 p3 W)
     unfold exV conX at HKc
     dsimp only at HKc
     go_wp2_with fail
     with_reducible refine (HOf.out _).mono ?_
     rintro e w6 ⟨rfl, hb6⟩
     go_wp2_with fail
     with_reducible refine (HKc.out _).mono ?_
     rintro e w7 ⟨rfl, hb7⟩
     have b7 := hb6.trans (hb7.mono hb6.size)
     replace z9 := z9.below b7 z9.lt
     replace e9 := e9.below b7 e9.lt
     replace B9 := B9.trans (b7.mono B9.size)
     have HO7 := Lib.hid (World.ownsRow.alloc (own_below hown5 b7) (.cells #[.int .i64 1, .int .i64 0, .int .i64 p1, .int .i64 p2, .string p3, .string ⟨#[]⟩, .slice none 0 0] 26))
     have HN7 := Lib.hid (Nat.le_trans HN5.out b7.size)
     have HZ7 := Lib.hid z9
     have HE7 := Lib.hid e9
     have HB7 := Lib.hid B9
     clear hb6 hb7 b7 hown5 z9 e9 B9 HOf HKc HN5
     have hN7 := HN7.out
     have hwN7 : w.heap.size + 1 < N := by omega
     go_upto_region 20 with (at_builtin; go_loud ((refine append_ex1 _ rfl _ _ rfl N _ [((r, .slice Ar r.args.length cr) : ExU)] rfl HO7.out w7.heap.size 1 ((⟨1, 0, (p1, p2, p3), ⟨#[]⟩, []⟩, .slice none 0 0) : ExU) ⟨_, _, _, rfl⟩ rfl (lit_ex w7 ((⟨1, 0, (p1, p2, p3), ⟨#[]⟩, []⟩, .slice none 0 0) : ExU)) ?_ ?_ ?_); (focus (simp only [List.length_singleton]; omega)); (focus (simp only [World.size_alloc]; omega)); intro g8 cap8 w8 hown8 hg8 hv8))
     have BA := (bel_mk w7 (.cells #[.int .i64 1, .int .i64 0, .int .i64 p1, .int .i64 p2, .string p3, .string ⟨#[]⟩, .slice none 0 0] 26))
     have B8 : Below N w7 w8 := (BA.mono hN7).grown hg8 (by simp only [World.size_alloc]; omega) (fun b hb => (World.ownsRow.lt HO7.out b hb).1)
     have z9 := Own.below HZ7.out B8 hwN7
     have e9 := Own.below HE7.out B8 (by omega)
     have B9 : Below w.heap.size w w8 := HB7.out.trans (B8.mono hNw)
     have HK8 := Lib.hid (show ∀ p ∈ ([((r, .slice Ar r.args.length cr) : ExU)] ++ [((⟨1, 0, (p1, p2, p3), ⟨#[]⟩, []⟩, .slice none 0 0) : ExU)]), RdE w L w.heap.size d p.2 p.1.args from fun p hp => by
      simp only [List.cons_append, List.nil_append, List.mem_cons, List.not_mem_nil, or_false] at hp
      rcases hp with rfl | rfl
      ·exact HRR.out
      ·obtain ⟨d, rfl⟩ : ∃ k, d = k + 1 := ⟨d - 1, by have := HRR.out.pos; omega⟩
       exact ⟨none, 0, rfl, by simp, fun k e hk => by simp at hk⟩)
     have HO8 := Lib.hid hown8
     replace HS := Lib.hid (show R = ⟨5, n, (k1, k2, s), nm, ([((r, .slice Ar r.args.length cr) : ExU)] ++ [((⟨1, 0, (p1, p2, p3), ⟨#[]⟩, []⟩, .slice none 0 0) : ExU)]).map (·.1)⟩ from HS.out)
     have hPL2 : ([((r, .slice Ar r.args.length cr) : ExU)] ++ [((⟨1, 0, (p1, p2, p3), ⟨#[]⟩, []⟩, .slice none 0 0) : ExU)]).length ≤ 1099511627776 := by simp
     generalize [((r, .slice Ar r.args.length cr) : ExU)] ++ [((⟨1, 0, (p1, p2, p3), ⟨#[]⟩, []⟩, .slice none 0 0) : ExU)] = qs at *
     have hPL := hPL2
     simp only [List.length_singleton] at *
     clear hown8 HZ7 HE7 HB7 BA
     have zz0 := z9.cell 0
     have zz1 := z9.cell 1
     have zz2 := z9.cell 2
     have zz3 := z9.cell 3
     have zz4 := z9.cell 4
     have zz5 := z9.cell 5
     have zz6 := z9.cell 6
     have mm0 := z9.free 0
     have mm1 := z9.free 1
     have mm2 := z9.free 2
     have mm3 := z9.free 3
     have mm4 := z9.free 4
     have mm5 := z9.free 5
     have mm6 := z9.free 6
     have ee0 := e9.cell 0
     have ee1 := e9.cell 1
     have ee2 := e9.cell 2
     have ee3 := e9.cell 3
     have ee4 := e9.cell 4
     have ee5 := e9.cell 5
     have ee6 := e9.cell 6
     have ef6 := e9.free 6
     have HX := Lib.hid ((((((((z9.far (p := ⟨w.heap.size, 6, none⟩) (by show w.heap.size + 1 ≠ w.heap.size; omega) (.slice (some ⟨g8, 0, none⟩) (1 + 1) cap8)).store 0 (.int .i64 5)).store 1 (.int .i64 n)).store 2 (.int .i64 k1)).store 3 (.int .i64 k2)).store 4 (.string s)).store 5 (.string nm)).store 6 (.slice (some ⟨g8, 0, none⟩) (1 + 1) cap8))
     have HF := Lib.hid ((((((((B9.sc w.heap.size 6 (.slice (some ⟨g8, 0, none⟩) (1 + 1) cap8)).sc (w.heap.size + 1) 0 (.int .i64 5)).sc (w.heap.size + 1) 1 (.int .i64 n)).sc (w.heap.size + 1) 2 (.int .i64 k1)).sc (w.heap.size + 1) 3 (.int .i64 k2)).sc (w.heap.size + 1) 4 (.string s)).sc (w.heap.size + 1) 5 (.string nm)).sc (w.heap.size + 1) 6 (.slice (some ⟨g8, 0, none⟩) (1 + 1) cap8))
     have HG := Lib.hid (own_farX (own_farX (own_farX (own_farX (own_farX (own_farX (own_farX (own_farX HO8.out (p := ⟨w.heap.size, 6, none⟩) (by show w.heap.size < N; omega) (.slice (some ⟨g8, 0, none⟩) (1 + 1) cap8)) (p := ⟨w.heap.size + 1, 0, none⟩) (by show w.heap.size + 1 < N; omega) (.int .i64 5)) (p := ⟨w.heap.size + 1, 1, none⟩) (by show w.heap.size + 1 < N; omega) (.int .i64 n)) (p := ⟨w.heap.size + 1, 2, none⟩) (by show w.heap.size + 1 < N; omega) (.int .i64 k1)) (p := ⟨w.heap.size + 1, 3, none⟩) (by show w.heap.size + 1 < N; omega) (.int .i64 k2)) (p := ⟨w.heap.size + 1, 4, none⟩) (by show w.heap.size + 1 < N; omega) (.string s)) (p := ⟨w.heap.size + 1, 5, none⟩) (by show w.heap.size + 1 < N; omega) (.string nm)) (p := ⟨w.heap.size + 1, 6, none⟩) (by show w.heap.size + 1 < N; omega) (.slice (some ⟨g8, 0, none⟩) (1 + 1) cap8))
     clear z9 e9 B9 B8 hg8 hv8 HO7 HCF HK hPL2
     go_wp2
     (try simp only [Exit.inBlock, Exit.then]); refine bodyPost_ret_by (results_cell_row1 (by rfl) _ _ (w.heap.size + 1) _ (by rfl) (load_ex HX.out)) ?_ ?_; (focus rfl); refine ⟨.slice (some ⟨g8, 0, none⟩) (1 + 1) cap8, by rw [HS.out]; rfl, ?_, HF.out⟩
     have hf := rdE_ownL HG.out hLN hPL (fun p hp => ((HK8.out p hp).below HF.out).more HF.out.size (Nat.le_refl _))
     simp only [World.size_setCell] at hf ⊢
     rw [HS.out]
     exact hf
    ·have HS := Lib.hid (show R = r from HSO.out.trans (if_pos rfl))
     clear HSO
     have C := fun j u hu => World.ownsRow.cells hown5 rfl j u hu
     simp only [addX] at C
     have rc0 := C 0 _ rfl
     have rc1 := C 1 _ rfl
     have rc2 := C 2 _ rfl
     have rc3 := C 3 _ rfl
     have rc4 := C 4 _ rfl
     have rc5 := C 5 _ rfl
     have rc6 := C 6 _ rfl
     dsimp only at rc0 rc1 rc2 rc3 rc4 rc5 rc6
     have zz0 := z9.cell 0
     have zz1 := z9.cell 1
     have zz2 := z9.cell 2
     have zz3 := z9.cell 3
     have zz4 := z9.cell 4
     have zz5 := z9.cell 5
     have zz6 := z9.cell 6
     have mm0 := z9.free 0
     have mm1 := z9.free 1
     have mm2 := z9.free 2
     have mm3 := z9.free 3
     have mm4 := z9.free 4
     have mm5 := z9.free 5
     have mm6 := z9.free 6
     have HX := Lib.hid (((((((z9.store 0 (.int .i64 r.op)).store 1 (.int .i64 r.n)).store 2 (.int .i64 r.v.1)).store 3 (.int .i64 r.v.2.1)).store 4 (.string r.v.2.2)).store 5 (.string r.nm)).store 6 (.slice Ar r.args.length cr))
     have HF := Lib.hid (((((((B9.sc (w.heap.size + 1) 0 (.int .i64 r.op)).sc (w.heap.size + 1) 1 (.int .i64 r.n)).sc (w.heap.size + 1) 2 (.int .i64 r.v.1)).sc (w.heap.size + 1) 3 (.int .i64 r.v.2.1)).sc (w.heap.size + 1) 4 (.string r.v.2.2)).sc (w.heap.size + 1) 5 (.string r.nm)).sc (w.heap.size + 1) 6 (.slice Ar r.args.length cr))
     clear C hown5 z9 B9 e9 HCF HK
     go_wp2
     (try simp only [Exit.inBlock, Exit.then]); refine bodyPost_ret_by (results_cell_row1 (by rfl) _ _ (w.heap.size + 1) _ (by rfl) (load_ex HX.out)) ?_ ?_; (focus rfl); refine ⟨.slice Ar r.args.length cr, by rw [HS.out]; rfl, ?_, HF.out⟩
     have hf := (HRR.out.below HF.out).more HF.out.size (Nat.le_refl _)
     simp only [World.size_setCell] at hf ⊢
     rw [HS.out]
     exact hf.up1
   ·have HS := Lib.hid (show R = ⟨5, n, (k1, k2, s), nm, ps.map (·.1)⟩ from HR.out.symm.trans (simJ_ne (e := ⟨5, n, (k1, k2, s), nm, es⟩) HCF.out (by rw [List.length_map]; exact hl1)))
    obtain ⟨Ao, co, ho⟩ := ownX_shape HO.out
    subst ho
    have hl1b : ((ps.length : Int) == 1) = false := by simp; omega
    clear hl1
    have zz0 := z9.cell 0
    have zz1 := z9.cell 1
    have zz2 := z9.cell 2
    have zz3 := z9.cell 3
    have zz4 := z9.cell 4
    have zz5 := z9.cell 5
    have zz6 := z9.cell 6
    have mm0 := z9.free 0
    have mm1 := z9.free 1
    have mm2 := z9.free 2
    have mm3 := z9.free 3
    have mm4 := z9.free 4
    have mm5 := z9.free 5
    have mm6 := z9.free 6
    have ee0 := e9.cell 0
    have ee1 := e9.cell 1
    have ee2 := e9.cell 2
    have ee3 := e9.cell 3
    have ee4 := e9.cell 4
    have ee5 := e9.cell 5
    have ee6 := e9.cell 6
    have ef6 := e9.free 6
    have HX := Lib.hid ((((((((z9.far (p := ⟨w.heap.size, 6, none⟩) (by show w.heap.size + 1 ≠ w.heap.size; omega) (.slice Ao ps.length co)).store 0 (.int .i64 5)).store 1 (.int .i64 n)).store 2 (.int .i64 k1)).store 3 (.int .i64 k2)).store 4 (.string s)).store 5 (.string nm)).store 6 (.slice Ao ps.length co))
    have HF := Lib.hid ((((((((B9.sc w.heap.size 6 (.slice Ao ps.length co)).sc (w.heap.size + 1) 0 (.int .i64 5)).sc (w.heap.size + 1) 1 (.int .i64 n)).sc (w.heap.size + 1) 2 (.int .i64 k1)).sc (w.heap.size + 1) 3 (.int .i64 k2)).sc (w.heap.size + 1) 4 (.string s)).sc (w.heap.size + 1) 5 (.string nm)).sc (w.heap.size + 1) 6 (.slice Ao ps.length co))
    have HG := Lib.hid (own_farX (own_farX (own_farX (own_farX (own_farX (own_farX (own_farX (own_farX HO.out (p := ⟨w.heap.size, 6, none⟩) (by show w.heap.size < N; omega) (.slice Ao ps.length co)) (p := ⟨w.heap.size + 1, 0, none⟩) (by show w.heap.size + 1 < N; omega) (.int .i64 5)) (p := ⟨w.heap.size + 1, 1, none⟩) (by show w.heap.size + 1 < N; omega) (.int .i64 n)) (p := ⟨w.heap.size + 1, 2, none⟩) (by show w.heap.size + 1 < N; omega) (.int .i64 k1)) (p := ⟨w.heap.size + 1, 3, none⟩) (by show w.heap.size + 1 < N; omega) (.int .i64 k2)) (p := ⟨w.heap.size + 1, 4, none⟩) (by show w.heap.size + 1 < N; omega) (.string s)) (p := ⟨w.heap.size + 1, 5, none⟩) (by show w.heap.size + 1 < N; omega) (.string nm)) (p := ⟨w.heap.size + 1, 6, none⟩) (by show w.heap.size + 1 < N; omega) (.slice Ao ps.length co))
    clear z9 e9 B9 HE0 HZ0 HB0 HZS HR HCF hbr
    go_wp2
    (try simp only [Exit.inBlock, Exit.then]); refine bodyPost_ret_by (results_cell_row1 (by rfl) _ _ (w.heap.size + 1) _ (by rfl) (load_ex HX.out)) ?_ ?_; (focus rfl); refine ⟨.slice Ao ps.length co, by rw [HS.out]; rfl, ?_, HF.out⟩
    have hf := rdE_ownL HG.out hLN hPL (fun p hp => ((HK.out p hp).below HF.out).more HF.out.size (Nat.le_refl _))
    simp only [World.size_setCell] at hf ⊢
    rw [HS.out]
    exact hf
theorem pJun6_any (n k1 k2 : Int) (s nm : ByteArray) (es : List Ex) (d : Nat) (u : Value) (w : World) (L : Nat) (hL : L ≤ w.heap.size) (h : RdE w L w.heap.size (d + 1) u es) :
  Calls Tryz.prog 16 #[exV ⟨6, n, (k1, k2, s), nm, es⟩ u] w (RetY w L (d + 1) (simJ ⟨6, n, (k1, k2, s), nm, es⟩)) := by
 obtain ⟨A, cc, rfl, hl, hc⟩ := h
 have HC := Lib.hid hc
 clear hc
 unfold exV
 dsimp only
 obtain ⟨N, hN⟩ : ∃ N, N = w.heap.size + 1 + 1 := ⟨_, rfl⟩
 have hLN : L ≤ N := by omega
 have b0 := (((Below.refl w.heap.size w).alloc (by first | omega | (simp only [World.size_alloc]; omega)) (.cells #[.int .i64 6, .int .i64 n, .int .i64 k1, .int .i64 k2, .string s, .string nm, .slice A es.length cc] 26)).alloc (by first | omega | (simp only [World.size_alloc]; omega)) (.cells #[.int .i64 0, .int .i64 0, .int .i64 0, .int .i64 0, .string ⟨#[]⟩, .string ⟨#[]⟩, .slice none 0 0] 26))
 have zs0 : ((w.alloc (.cells #[.int .i64 6, .int .i64 n, .int .i64 k1, .int .i64 k2, .string s, .string nm, .slice A es.length cc] 26)).alloc (.cells #[.int .i64 0, .int .i64 0, .int .i64 0, .int .i64 0, .string ⟨#[]⟩, .string ⟨#[]⟩, .slice none 0 0] 26)).heap.size = N := by rw [hN]; simp only [World.size_alloc]
 have oE0 : Own ((w.alloc (.cells #[.int .i64 6, .int .i64 n, .int .i64 k1, .int .i64 k2, .string s, .string nm, .slice A es.length cc] 26)).alloc (.cells #[.int .i64 0, .int .i64 0, .int .i64 0, .int .i64 0, .string ⟨#[]⟩, .string ⟨#[]⟩, .slice none 0 0] 26)) w.heap.size 26 #[.int .i64 6, .int .i64 n, .int .i64 k1, .int .i64 k2, .string s, .string nm, .slice A es.length cc] := by
  have := ((Own.new w 26 #[.int .i64 6, .int .i64 n, .int .i64 k1, .int .i64 k2, .string s, .string nm, .slice A es.length cc]).alloc (.cells #[.int .i64 0, .int .i64 0, .int .i64 0, .int .i64 0, .string ⟨#[]⟩, .string ⟨#[]⟩, .slice none 0 0] 26))
  simpa only [World.size_alloc] using this
 have oZ0 : Own ((w.alloc (.cells #[.int .i64 6, .int .i64 n, .int .i64 k1, .int .i64 k2, .string s, .string nm, .slice A es.length cc] 26)).alloc (.cells #[.int .i64 0, .int .i64 0, .int .i64 0, .int .i64 0, .string ⟨#[]⟩, .string ⟨#[]⟩, .slice none 0 0] 26)) (w.heap.size + 1) 26 #[.int .i64 0, .int .i64 0, .int .i64 0, .int .i64 0, .string ⟨#[]⟩, .string ⟨#[]⟩, .slice none 0 0] := by
  have := (Own.new (w.alloc (.cells #[.int .i64 6, .int .i64 n, .int .i64 k1, .int .i64 k2, .string s, .string nm, .slice A es.length cc] 26)) 26 #[.int .i64 0, .int .i64 0, .int .i64 0, .int .i64 0, .string ⟨#[]⟩, .string ⟨#[]⟩, .slice none 0 0])
  simpa only [World.size_alloc] using this
 have y0 := oE0.cell 0
 have y6 := oE0.cell 6
 have HE0 := Lib.hid oE0
 have HZ0 := Lib.hid oZ0
 have HB0 := Lib.hid b0
 have HZS := Lib.hid zs0
 clear b0 oE0 oZ0 zs0
 generalize hR : simJ ⟨6, n, (k1, k2, s), nm, es⟩ = R at *
 have HR := Lib.hid hR
 clear hR
 go_enter Tryz.func16, Tryz.ntmps16
 go_upto_region 6 with fail
 generalize ((w.alloc (.cells #[.int .i64 6, .int .i64 n, .int .i64 k1, .int .i64 k2, .string s, .string nm, .slice A es.length cc] 26)).alloc (.cells #[.int .i64 0, .int .i64 0, .int .i64 0, .int .i64 0, .string ⟨#[]⟩, .string ⟨#[]⟩, .slice none 0 0] 26)) = W0 at *
 clear y6 y0
 go_loopw [4, 13] (fun o i wr => ∃ (k : Nat) (ps : List ExU), k ≤ es.length ∧ i = .int .i64 k ∧ ps.length ≤ k ∧ Hid (juF 6 es = (juF 6 (es.drop k)).map (ps.map (·.1) ++ ·)) ∧ Hid (wr.ownsRow N 26 7 o ps.length (flatE ps)) ∧ Hid (∀ p ∈ ps, RdE w L w.heap.size d p.2 p.1.args) ∧ Below N W0 wr) (fun _ i _ => es.length - (intOf i).toNat)
 case atStart => exact ⟨0, [], Nat.zero_le _, rfl, Nat.le_refl _, Lib.hid (by rw [List.drop_zero, List.map_nil]; cases juF 6 es <;> rfl), Lib.hid (World.ownsRow_nil W0 N 26 7), Lib.hid (fun p hp => by simp at hp), Below.refl _ _⟩
 case round =>
  obtain ⟨k, ps, hk, rfl, hpk, HCO, HO, HK, hbr⟩ := hrel
  have hbz := hbr.size
  have hbN : N ≤ wr.heap.size := by have := HZS.out; omega
  have hNw : w.heap.size ≤ N := by omega
  by_cases hlt : k < es.length
  ·have hki : (k : Int) < es.length := by omega
   have hki0 : (0 : Int) ≤ (k : Int) := by omega
   have hx := List.getElem?_eq_getElem hlt
   obtain ⟨ad, x, rfl, _, hab, hxc, hxr⟩ := HC.out k _ hx
   have hd := juF_drop (op := 6) hx
   rw [show Va.vnot (neuT 6) = 2 from rfl] at hd
   generalize es[k] = y at *
   obtain ⟨aop, an, ⟨av1, av2, av3⟩, anm, aargs⟩ := y
   dsimp only at hd
   obtain ⟨A3, c3, rfl, _⟩ := hxr.slice
   have bwr : Below w.heap.size w wr := HB0.out.trans (hbr.mono hNw)
   obtain ⟨x0, x1, x2, x3, x4, x5, x6⟩ := hxc.below bwr (by rw [add_blk]; exact hab)
   dsimp only at x0 x1 x2 x3 x4 x5 x6
   have bV : Below wr.heap.size wr (wr.alloc (.cells #[.int .i64 aop, .int .i64 an, .int .i64 av1, .int .i64 av2, .string av3, .string anm, .slice A3 aargs.length c3] 26)) := (Below.refl _ _).alloc (Nat.le_refl _) _
   have oV := Own.new wr 26 #[.int .i64 aop, .int .i64 an, .int .i64 av1, .int .i64 av2, .string av3, .string anm, .slice A3 aargs.length c3]
   have HX := Lib.hid hxr
   have HD := Lib.hid hd
   clear hd hxc hx
   by_cases h1 : aop = 1
   ·subst h1
    have HTr := Lib.hid (fun (W : World) (hb : Below w.heap.size w W) => pTruthE_any (.slice none 0 0) [] d ⟨1, an, (av1, av2, av3), anm, aargs⟩ A3 c3 W L W.heap.size (hxr.step hb (Nat.le_refl _)) (rdV_nil W _ _))
    have ht : truP (evE [] d ⟨1, an, (av1, av2, av3), anm, aargs⟩) = truC ⟨1, an, (av1, av2, av3), anm, aargs⟩ := by obtain ⟨d, rfl⟩ : ∃ k, d = k + 1 := ⟨d - 1, by have := hxr.pos; omega⟩; unfold truC; rw [ev_constZ [] d _ rfl]
    rw [ht] at HTr
    have HTI := Lib.hid (show truC ⟨1, an, (av1, av2, av3), anm, aargs⟩ = 0 ∨ truC ⟨1, an, (av1, av2, av3), anm, aargs⟩ = 1 ∨ truC ⟨1, an, (av1, av2, av3), anm, aargs⟩ = 2 from tru_tri _)
    clear ht hxr
    unfold exV at HTr
    dsimp only at HTr
    generalize truC ⟨1, an, (av1, av2, av3), anm, aargs⟩ = TT at *
    have HNt := Lib.hid (fun W => show Calls Tryz.prog 64 #[.int .i64 0] W (fun e w' => e = .returned (.int .i64 2) ∧ Below W.heap.size W w') from Va.pNot_any 0 W)
    have v0 := oV.cell 0
    have v1 := oV.cell 1
    have v2 := oV.cell 2
    have v3 := oV.cell 3
    have v4 := oV.cell 4
    have v5 := oV.cell 5
    have v6 := oV.cell 6
    have HBV := Lib.hid (hbr.trans (bV.mono hbN))
    have hVs := bV.size
    go_upto_region 10 with fail
    generalize hV : wr.alloc (.cells #[.int .i64 1, .int .i64 an, .int .i64 av1, .int .i64 av2, .string av3, .string anm, .slice A3 aargs.length c3] 26) = V at *
    go_wp2_with fail
    with_reducible refine (HTr.out _ (HB0.out.trans (HBV.out.mono hNw))).mono ?_
    rintro e w5 ⟨rfl, hb5⟩
    have o5 := oV.below hb5 oV.lt
    have b5 := bV.trans (hb5.mono hVs)
    clear v0 v1 v2 v3 v4 v5 v6 HTr hb5 HBV hV
    go_wp2_with fail
    with_reducible refine (HNt.out _).mono ?_
    rintro e w6 ⟨rfl, hb6⟩
    have o6 := o5.below hb6 o5.lt
    have bq : Below wr.heap.size wr w6 := b5.trans (hb6.mono b5.size)
    have hqs : wr.heap.size < w6.heap.size := o6.lt
    clear o5 b5 hb6 oV bV x0 x1 x2 x3 x4 x5 x6
    have HTJ := HTI.out
    clear HTI
    rcases HTJ with rfl | rfl | rfl
    ·have HD1 := Lib.hid (by have := HD.out; rw [if_neg (by simp), if_neg (by simp), if_neg (by simp)] at this; exact this : juF 6 (es.drop k) = juF 6 (es.drop (k + 1)))
     clear HD HX o6
     have B5 := hbr.trans (bq.mono hbN)
     have HOq := Lib.hid (own_below HO.out bq)
     have HC9 := Lib.hid (HCO.out.trans (by rw [HD1.out]))
     clear HCO HD1 HO bq
     go_wp2
     go_roundw
     case rel => exact ⟨k + 1, ps, by omega, by go_num, by omega, HC9, HOq, HK, B5⟩
     case measure => simp [intOf]; omega
    ·have HD1 := Lib.hid (by have := HD.out; rw [if_neg (by simp), if_neg (by simp), if_pos rfl] at this; exact this : juF 6 (es.drop k) = (juF 6 (es.drop (k + 1))).map (⟨1, an, (av1, av2, av3), anm, aargs⟩ :: ·))
     clear HD
     have ea0 := o6.cell 0
     have ea1 := o6.cell 1
     have ea2 := o6.cell 2
     have ea3 := o6.cell 3
     have ea4 := o6.cell 4
     have ea5 := o6.cell 5
     have ea6 := o6.cell 6
     have HOL := Lib.hid (ownX_lt HO.out)
     have HOq := Lib.hid (World.ownsRow.alloc (own_below HO.out bq) (.cells #[.int .i64 1, .int .i64 an, .int .i64 av1, .int .i64 av2, .string av3, .string anm, .slice A3 aargs.length c3] 26))
     have HBq := Lib.hid (hbr.trans ((bq.trans ((bel_mk w6 (.cells #[.int .i64 1, .int .i64 an, .int .i64 av1, .int .i64 av2, .string av3, .string anm, .slice A3 aargs.length c3] 26)).mono bq.size)).mono hbN))
     have HC9 := Lib.hid (show juF 6 es = (juF 6 (es.drop (k + 1))).map ((ps ++ [((⟨1, an, (av1, av2, av3), anm, aargs⟩, .slice A3 aargs.length c3) : ExU)]).map (·.1) ++ ·) by rw [List.map_append]; exact ju_add HCO.out HD1.out)
     have HK9 := Lib.hid (show ∀ p ∈ ps ++ [((⟨1, an, (av1, av2, av3), anm, aargs⟩, .slice A3 aargs.length c3) : ExU)], RdE w L w.heap.size d p.2 p.1.args from fun p hp => by
      rcases List.mem_append.1 hp with hp | hp
      ·exact HK.out p hp
      ·rw [List.mem_singleton.1 hp]; exact HX.out)
     have hwN : N ≤ w6.heap.size := by omega
     clear HCO HD1 HK HX o6
     go_wp2_with (at_builtin; go_loud ((refine append_ex1 _ rfl _ _ rfl N _ ps rfl HOq.out w6.heap.size 1 ((⟨1, an, (av1, av2, av3), anm, aargs⟩, .slice A3 aargs.length c3) : ExU) ⟨_, _, _, rfl⟩ rfl (lit_ex w6 ((⟨1, an, (av1, av2, av3), anm, aargs⟩, .slice A3 aargs.length c3) : ExU)) ?_ ?_ ?_); (focus omega); (focus (simp only [World.size_alloc]; omega)); intro g5 cap5 w7 hown5 hg5 hv5; have B5 := HBq.out.grown hg5 (by simp only [World.size_alloc]; omega) (fun b hb => (World.ownsRow.lt HO.out b hb).1)))
     go_roundw
     case rel => exact ⟨k + 1, ps ++ [(⟨1, an, (av1, av2, av3), anm, aargs⟩, .slice A3 aargs.length c3)], by omega, by go_num, by simp; omega, HC9, by rw [List.length_append] at hown5 ⊢; exact Lib.hid hown5, HK9, B5⟩
     case measure => simp [intOf]; omega
    ·have HD1 := Lib.hid (by have := HD.out; rw [if_neg (by simp), if_pos rfl] at this; exact this : juF 6 (es.drop k) = none)
     have HS := Lib.hid (show R = conX (ofP 2) from HR.out.symm.trans (simJ_none (e := ⟨6, n, (k1, k2, s), nm, es⟩) (by show juF 6 es = none; rw [HCO.out, HD1.out]; rfl)))
     clear HD HD1 HCO HX o6 HO HK
     have z9 := Own.below HZ0.out (hbr.trans (bq.mono hbN)) (show w.heap.size + 1 < _ by have := HZS.out; omega)
     have B9 : Below w.heap.size w w6 := HB0.out.trans ((hbr.trans (bq.mono hbN)).mono hNw)
     clear HE0 HZ0 HB0 HZS HR hbr bq
     have HOf := Lib.hid (fun W => eOf 2 W)
     generalize ofP 2 = pv at *
     obtain ⟨p1, p2, p3⟩ := pv
     unfold valV at HOf
     dsimp only at HOf
     have HKc := Lib.hid (fun W => pCon_any p1 p2 p3 W)
     unfold exV conX at HKc
     dsimp only at HKc
     go_wp2_with fail
     with_reducible refine (HNt.out _).mono ?_
     rintro e wa ⟨rfl, hba⟩
     go_wp2_with fail
     with_reducible refine (HOf.out _).mono ?_
     rintro e wb ⟨rfl, hbb⟩
     go_wp2_with fail
     with_reducible refine (HKc.out _).mono ?_
     rintro e wc ⟨rfl, hbc⟩
     have bc := (hba.trans (hbb.mono hba.size)).trans (hbc.mono (Nat.le_trans hba.size hbb.size))
     replace z9 := z9.below bc z9.lt
     replace B9 := B9.trans (bc.mono B9.size)
     clear hba hbb hbc bc HOf HKc HNt
     have zz0 := z9.cell 0
     have zz1 := z9.cell 1
     have zz2 := z9.cell 2
     have zz3 := z9.cell 3
     have zz4 := z9.cell 4
     have zz5 := z9.cell 5
     have zz6 := z9.cell 6
     have mm0 := z9.free 0
     have mm1 := z9.free 1
     have mm2 := z9.free 2
     have mm3 := z9.free 3
     have mm4 := z9.free 4
     have mm5 := z9.free 5
     have mm6 := z9.free 6
     have HX := Lib.hid (((((((z9.store 0 (.int .i64 1)).store 1 (.int .i64 0)).store 2 (.int .i64 p1)).store 3 (.int .i64 p2)).store 4 (.string p3)).store 5 (.string ⟨#[]⟩)).store 6 (.slice none 0 0))
     have HF := Lib.hid (((((((B9.sc (w.heap.size + 1) 0 (.int .i64 1)).sc (w.heap.size + 1) 1 (.int .i64 0)).sc (w.heap.size + 1) 2 (.int .i64 p1)).sc (w.heap.size + 1) 3 (.int .i64 p2)).sc (w.heap.size + 1) 4 (.string p3)).sc (w.heap.size + 1) 5 (.string ⟨#[]⟩)).sc (w.heap.size + 1) 6 (.slice none 0 0))
     clear z9 B9
     go_wp2
     (try simp only [Exit.inBlock, Exit.then]); refine bodyPost_ret_by (results_cell_row1 (by rfl) _ _ (w.heap.size + 1) _ (by rfl) (load_ex HX.out)) ?_ ?_; (focus rfl); refine ⟨.slice none 0 0, by rw [HS.out]; rfl, ?_, HF.out⟩
     rw [HS.out]
     exact ⟨none, 0, rfl, by simp [conX], fun k e hk => by simp [conX] at hk⟩
   ·have h1b : (aop != 1) = true := by simpa using h1
    have HD1 := Lib.hid (by have := HD.out; rw [if_pos h1] at this; exact this : juF 6 (es.drop k) = (juF 6 (es.drop (k + 1))).map (⟨aop, an, (av1, av2, av3), anm, aargs⟩ :: ·))
    clear h1 HD hxr
    have o6 := oV
    have bq := bV
    have hqs : wr.heap.size < (wr.alloc (.cells #[.int .i64 aop, .int .i64 an, .int .i64 av1, .int .i64 av2, .string av3, .string anm, .slice A3 aargs.length c3] 26)).heap.size := oV.lt
    clear bV
    have v0 := oV.cell 0
    go_upto_region 9 with fail
    clear v0
    generalize wr.alloc (.cells #[.int .i64 aop, .int .i64 an, .int .i64 av1, .int .i64 av2, .string av3, .string anm, .slice A3 aargs.length c3] 26) = w6 at *
    clear oV
    have ea0 := o6.cell 0
    have ea1 := o6.cell 1
    have ea2 := o6.cell 2
    have ea3 := o6.cell 3
    have ea4 := o6.cell 4
    have ea5 := o6.cell 5
    have ea6 := o6.cell 6
    have HOL := Lib.hid (ownX_lt HO.out)
    have HOq := Lib.hid (World.ownsRow.alloc (own_below HO.out bq) (.cells #[.int .i64 aop, .int .i64 an, .int .i64 av1, .int .i64 av2, .string av3, .string anm, .slice A3 aargs.length c3] 26))
    have HBq := Lib.hid (hbr.trans ((bq.trans ((bel_mk w6 (.cells #[.int .i64 aop, .int .i64 an, .int .i64 av1, .int .i64 av2, .string av3, .string anm, .slice A3 aargs.length c3] 26)).mono bq.size)).mono hbN))
    have HC9 := Lib.hid (show juF 6 es = (juF 6 (es.drop (k + 1))).map ((ps ++ [((⟨aop, an, (av1, av2, av3), anm, aargs⟩, .slice A3 aargs.length c3) : ExU)]).map (·.1) ++ ·) by rw [List.map_append]; exact ju_add HCO.out HD1.out)
    have HK9 := Lib.hid (show ∀ p ∈ ps ++ [((⟨aop, an, (av1, av2, av3), anm, aargs⟩, .slice A3 aargs.length c3) : ExU)], RdE w L w.heap.size d p.2 p.1.args from fun p hp => by
     rcases List.mem_append.1 hp with hp | hp
     ·exact HK.out p hp
     ·rw [List.mem_singleton.1 hp]; exact HX.out)
    have hwN : N ≤ w6.heap.size := by omega
    clear HCO HD1 HK HX o6
    go_wp2_with (at_builtin; go_loud ((refine append_ex1 _ rfl _ _ rfl N _ ps rfl HOq.out w6.heap.size 1 ((⟨aop, an, (av1, av2, av3), anm, aargs⟩, .slice A3 aargs.length c3) : ExU) ⟨_, _, _, rfl⟩ rfl (lit_ex w6 ((⟨aop, an, (av1, av2, av3), anm, aargs⟩, .slice A3 aargs.length c3) : ExU)) ?_ ?_ ?_); (focus omega); (focus (simp only [World.size_alloc]; omega)); intro g5 cap5 w7 hown5 hg5 hv5; have B5 := HBq.out.grown hg5 (by simp only [World.size_alloc]; omega) (fun b hb => (World.ownsRow.lt HO.out b hb).1)))
    go_roundw
    case rel => exact ⟨k + 1, ps ++ [(⟨aop, an, (av1, av2, av3), anm, aargs⟩, .slice A3 aargs.length c3)], by omega, by go_num, by simp; omega, HC9, by rw [List.length_append] at hown5 ⊢; exact Lib.hid hown5, HK9, B5⟩
    case measure => simp [intOf]; omega
  ·have hd : ¬ (k : Int) < es.length := by omega
   have hdr : es.drop k = [] := List.drop_eq_nil_of_le (by omega)
   have HCF := Lib.hid (show juF 6 es = some (ps.map (·.1)) by rw [HCO.out, hdr]; unfold juF; simp)
   have hPL : ps.length ≤ 1099511627776 := by omega
   clear HCO hdr
   have z9 := Own.below HZ0.out hbr (show w.heap.size + 1 < _ by have := HZS.out; omega)
   have e9 := Own.below HE0.out hbr (show w.heap.size < _ by have := HZS.out; omega)
   have B9 : Below w.heap.size w wr := HB0.out.trans (hbr.mono hNw)
   by_cases hl1 : ps.length = 1
   ·obtain ⟨⟨r, ur⟩, hps⟩ := List.length_eq_one_iff.1 hl1
    subst hps
    have HRR := Lib.hid (HK.out (r, ur) (by simp))
    obtain ⟨Ar, cr, hur, _⟩ := HRR.out.slice
    dsimp only at hur
    subst hur
    have hown := HO.out
    obtain ⟨g, cap, ho⟩ := own_blk hown (by simp)
    subst ho
    have HSO := Lib.hid (show R = if isT r.op = true then r else ⟨6, n, (k1, k2, s), nm, [r, conX (ofP 0)]⟩ from HR.out.symm.trans (simJ_one HCF.out))
    simp only [List.length_singleton] at *
    have C := fun j u hu => World.ownsRow.cells hown rfl j u hu
    simp only [addX] at C
    have rc0 := C 0 _ rfl
    dsimp only at rc0
    clear C
    go_wp2_with fail
    with_reducible refine (pIsT_any r.op _).mono ?_
    rintro e w5 ⟨rfl, hb5⟩
    replace z9 := z9.below hb5 z9.lt
    replace e9 := e9.below hb5 e9.lt
    replace B9 := B9.trans (hb5.mono B9.size)
    have hown5 := own_below hown hb5
    have HN5 := Lib.hid (Nat.le_trans hbN hb5.size)
    clear hb5 rc0 hown HO HE0 HZ0 HB0 HZS HR hbr
    have HTT := Lib.hid (show isT r.op = isT r.op from rfl)
    generalize isT r.op = TB at *
    cases TB
    ·have HS := Lib.hid (show R = ⟨6, n, (k1, k2, s), nm, [r, conX (ofP 0)]⟩ from HSO.out.trans (if_neg (by simp)))
     clear HSO
     have HOf := Lib.hid (fun W => eOf 0 W)
     generalize ofP 0 = pv at *
     obtain ⟨p1, p2, p3⟩ := pv
     unfold valV at HOf
     dsimp only at HOf
     have HKc := Lib.hid (fun W => pCon_any p1 p2 p3 W)
     unfold exV conX at HKc
     dsimp only at HKc
     go_wp2_with fail
     with_reducible refine (HOf.out _).mono ?_
     rintro e w6 ⟨rfl, hb6⟩
     go_wp2_with fail
     with_reducible refine (HKc.out _).mono ?_
     rintro e w7 ⟨rfl, hb7⟩
     have b7 := hb6.trans (hb7.mono hb6.size)
     replace z9 := z9.below b7 z9.lt
     replace e9 := e9.below b7 e9.lt
     replace B9 := B9.trans (b7.mono B9.size)
     have HO7 := Lib.hid (World.ownsRow.alloc (own_below hown5 b7) (.cells #[.int .i64 1, .int .i64 0, .int .i64 p1, .int .i64 p2, .string p3, .string ⟨#[]⟩, .slice none 0 0] 26))
     have HN7 := Lib.hid (Nat.le_trans HN5.out b7.size)
     have HZ7 := Lib.hid z9
     have HE7 := Lib.hid e9
     have HB7 := Lib.hid B9
     clear hb6 hb7 b7 hown5 z9 e9 B9 HOf HKc HN5
     have hN7 := HN7.out
     have hwN7 : w.heap.size + 1 < N := by omega
     go_upto_region 20 with (at_builtin; go_loud ((refine append_ex1 _ rfl _ _ rfl N _ [((r, .slice Ar r.args.length cr) : ExU)] rfl HO7.out w7.heap.size 1 ((⟨1, 0, (p1, p2, p3), ⟨#[]⟩, []⟩, .slice none 0 0) : ExU) ⟨_, _, _, rfl⟩ rfl (lit_ex w7 ((⟨1, 0, (p1, p2, p3), ⟨#[]⟩, []⟩, .slice none 0 0) : ExU)) ?_ ?_ ?_); (focus (simp only [List.length_singleton]; omega)); (focus (simp only [World.size_alloc]; omega)); intro g8 cap8 w8 hown8 hg8 hv8))
     have BA := (bel_mk w7 (.cells #[.int .i64 1, .int .i64 0, .int .i64 p1, .int .i64 p2, .string p3, .string ⟨#[]⟩, .slice none 0 0] 26))
     have B8 : Below N w7 w8 := (BA.mono hN7).grown hg8 (by simp only [World.size_alloc]; omega) (fun b hb => (World.ownsRow.lt HO7.out b hb).1)
     have z9 := Own.below HZ7.out B8 hwN7
     have e9 := Own.below HE7.out B8 (by omega)
     have B9 : Below w.heap.size w w8 := HB7.out.trans (B8.mono hNw)
     have HK8 := Lib.hid (show ∀ p ∈ ([((r, .slice Ar r.args.length cr) : ExU)] ++ [((⟨1, 0, (p1, p2, p3), ⟨#[]⟩, []⟩, .slice none 0 0) : ExU)]), RdE w L w.heap.size d p.2 p.1.args from fun p hp => by
      simp only [List.cons_append, List.nil_append, List.mem_cons, List.not_mem_nil, or_false] at hp
      rcases hp with rfl | rfl
      ·exact HRR.out
      ·obtain ⟨d, rfl⟩ : ∃ k, d = k + 1 := ⟨d - 1, by have := HRR.out.pos; omega⟩
       exact ⟨none, 0, rfl, by simp, fun k e hk => by simp at hk⟩)
     have HO8 := Lib.hid hown8
     replace HS := Lib.hid (show R = ⟨6, n, (k1, k2, s), nm, ([((r, .slice Ar r.args.length cr) : ExU)] ++ [((⟨1, 0, (p1, p2, p3), ⟨#[]⟩, []⟩, .slice none 0 0) : ExU)]).map (·.1)⟩ from HS.out)
     have hPL2 : ([((r, .slice Ar r.args.length cr) : ExU)] ++ [((⟨1, 0, (p1, p2, p3), ⟨#[]⟩, []⟩, .slice none 0 0) : ExU)]).length ≤ 1099511627776 := by simp
     generalize [((r, .slice Ar r.args.length cr) : ExU)] ++ [((⟨1, 0, (p1, p2, p3), ⟨#[]⟩, []⟩, .slice none 0 0) : ExU)] = qs at *
     have hPL := hPL2
     simp only [List.length_singleton] at *
     clear hown8 HZ7 HE7 HB7 BA
     have zz0 := z9.cell 0
     have zz1 := z9.cell 1
     have zz2 := z9.cell 2
     have zz3 := z9.cell 3
     have zz4 := z9.cell 4
     have zz5 := z9.cell 5
     have zz6 := z9.cell 6
     have mm0 := z9.free 0
     have mm1 := z9.free 1
     have mm2 := z9.free 2
     have mm3 := z9.free 3
     have mm4 := z9.free 4
     have mm5 := z9.free 5
     have mm6 := z9.free 6
     have ee0 := e9.cell 0
     have ee1 := e9.cell 1
     have ee2 := e9.cell 2
     have ee3 := e9.cell 3
     have ee4 := e9.cell 4
     have ee5 := e9.cell 5
     have ee6 := e9.cell 6
     have ef6 := e9.free 6
     have HX := Lib.hid ((((((((z9.far (p := ⟨w.heap.size, 6, none⟩) (by show w.heap.size + 1 ≠ w.heap.size; omega) (.slice (some ⟨g8, 0, none⟩) (1 + 1) cap8)).store 0 (.int .i64 6)).store 1 (.int .i64 n)).store 2 (.int .i64 k1)).store 3 (.int .i64 k2)).store 4 (.string s)).store 5 (.string nm)).store 6 (.slice (some ⟨g8, 0, none⟩) (1 + 1) cap8))
     have HF := Lib.hid ((((((((B9.sc w.heap.size 6 (.slice (some ⟨g8, 0, none⟩) (1 + 1) cap8)).sc (w.heap.size + 1) 0 (.int .i64 6)).sc (w.heap.size + 1) 1 (.int .i64 n)).sc (w.heap.size + 1) 2 (.int .i64 k1)).sc (w.heap.size + 1) 3 (.int .i64 k2)).sc (w.heap.size + 1) 4 (.string s)).sc (w.heap.size + 1) 5 (.string nm)).sc (w.heap.size + 1) 6 (.slice (some ⟨g8, 0, none⟩) (1 + 1) cap8))
     have HG := Lib.hid (own_farX (own_farX (own_farX (own_farX (own_farX (own_farX (own_farX (own_farX HO8.out (p := ⟨w.heap.size, 6, none⟩) (by show w.heap.size < N; omega) (.slice (some ⟨g8, 0, none⟩) (1 + 1) cap8)) (p := ⟨w.heap.size + 1, 0, none⟩) (by show w.heap.size + 1 < N; omega) (.int .i64 6)) (p := ⟨w.heap.size + 1, 1, none⟩) (by show w.heap.size + 1 < N; omega) (.int .i64 n)) (p := ⟨w.heap.size + 1, 2, none⟩) (by show w.heap.size + 1 < N; omega) (.int .i64 k1)) (p := ⟨w.heap.size + 1, 3, none⟩) (by show w.heap.size + 1 < N; omega) (.int .i64 k2)) (p := ⟨w.heap.size + 1, 4, none⟩) (by show w.heap.size + 1 < N; omega) (.string s)) (p := ⟨w.heap.size + 1, 5, none⟩) (by show w.heap.size + 1 < N; omega) (.string nm)) (p := ⟨w.heap.size + 1, 6, none⟩) (by show w.heap.size + 1 < N; omega) (.slice (some ⟨g8, 0, none⟩) (1 + 1) cap8))
     clear z9 e9 B9 B8 hg8 hv8 HO7 HCF HK hPL2
     go_wp2
     (try simp only [Exit.inBlock, Exit.then]); refine bodyPost_ret_by (results_cell_row1 (by rfl) _ _ (w.heap.size + 1) _ (by rfl) (load_ex HX.out)) ?_ ?_; (focus rfl); refine ⟨.slice (some ⟨g8, 0, none⟩) (1 + 1) cap8, by rw [HS.out]; rfl, ?_, HF.out⟩
     have hf := rdE_ownL HG.out hLN hPL (fun p hp => ((HK8.out p hp).below HF.out).more HF.out.size (Nat.le_refl _))
     simp only [World.size_setCell] at hf ⊢
     rw [HS.out]
     exact hf
    ·have HS := Lib.hid (show R = r from HSO.out.trans (if_pos rfl))
     clear HSO
     have C := fun j u hu => World.ownsRow.cells hown5 rfl j u hu
     simp only [addX] at C
     have rc0 := C 0 _ rfl
     have rc1 := C 1 _ rfl
     have rc2 := C 2 _ rfl
     have rc3 := C 3 _ rfl
     have rc4 := C 4 _ rfl
     have rc5 := C 5 _ rfl
     have rc6 := C 6 _ rfl
     dsimp only at rc0 rc1 rc2 rc3 rc4 rc5 rc6
     have zz0 := z9.cell 0
     have zz1 := z9.cell 1
     have zz2 := z9.cell 2
     have zz3 := z9.cell 3
     have zz4 := z9.cell 4
     have zz5 := z9.cell 5
     have zz6 := z9.cell 6
     have mm0 := z9.free 0
     have mm1 := z9.free 1
     have mm2 := z9.free 2
     have mm3 := z9.free 3
     have mm4 := z9.free 4
     have mm5 := z9.free 5
     have mm6 := z9.free 6
     have HX := Lib.hid (((((((z9.store 0 (.int .i64 r.op)).store 1 (.int .i64 r.n)).store 2 (.int .i64 r.v.1)).store 3 (.int .i64 r.v.2.1)).store 4 (.string r.v.2.2)).store 5 (.string r.nm)).store 6 (.slice Ar r.args.length cr))
     have HF := Lib.hid (((((((B9.sc (w.heap.size + 1) 0 (.int .i64 r.op)).sc (w.heap.size + 1) 1 (.int .i64 r.n)).sc (w.heap.size + 1) 2 (.int .i64 r.v.1)).sc (w.heap.size + 1) 3 (.int .i64 r.v.2.1)).sc (w.heap.size + 1) 4 (.string r.v.2.2)).sc (w.heap.size + 1) 5 (.string r.nm)).sc (w.heap.size + 1) 6 (.slice Ar r.args.length cr))
     clear C hown5 z9 B9 e9 HCF HK
     go_wp2
     (try simp only [Exit.inBlock, Exit.then]); refine bodyPost_ret_by (results_cell_row1 (by rfl) _ _ (w.heap.size + 1) _ (by rfl) (load_ex HX.out)) ?_ ?_; (focus rfl); refine ⟨.slice Ar r.args.length cr, by rw [HS.out]; rfl, ?_, HF.out⟩
     have hf := (HRR.out.below HF.out).more HF.out.size (Nat.le_refl _)
     simp only [World.size_setCell] at hf ⊢
     rw [HS.out]
     exact hf.up1
   ·have HS := Lib.hid (show R = ⟨6, n, (k1, k2, s), nm, ps.map (·.1)⟩ from HR.out.symm.trans (simJ_ne (e := ⟨6, n, (k1, k2, s), nm, es⟩) HCF.out (by rw [List.length_map]; exact hl1)))
    obtain ⟨Ao, co, ho⟩ := ownX_shape HO.out
    subst ho
    have hl1b : ((ps.length : Int) == 1) = false := by simp; omega
    clear hl1
    have zz0 := z9.cell 0
    have zz1 := z9.cell 1
    have zz2 := z9.cell 2
    have zz3 := z9.cell 3
    have zz4 := z9.cell 4
    have zz5 := z9.cell 5
    have zz6 := z9.cell 6
    have mm0 := z9.free 0
    have mm1 := z9.free 1
    have mm2 := z9.free 2
    have mm3 := z9.free 3
    have mm4 := z9.free 4
    have mm5 := z9.free 5
    have mm6 := z9.free 6
    have ee0 := e9.cell 0
    have ee1 := e9.cell 1
    have ee2 := e9.cell 2
    have ee3 := e9.cell 3
    have ee4 := e9.cell 4
    have ee5 := e9.cell 5
    have ee6 := e9.cell 6
    have ef6 := e9.free 6
    have HX := Lib.hid ((((((((z9.far (p := ⟨w.heap.size, 6, none⟩) (by show w.heap.size + 1 ≠ w.heap.size; omega) (.slice Ao ps.length co)).store 0 (.int .i64 6)).store 1 (.int .i64 n)).store 2 (.int .i64 k1)).store 3 (.int .i64 k2)).store 4 (.string s)).store 5 (.string nm)).store 6 (.slice Ao ps.length co))
    have HF := Lib.hid ((((((((B9.sc w.heap.size 6 (.slice Ao ps.length co)).sc (w.heap.size + 1) 0 (.int .i64 6)).sc (w.heap.size + 1) 1 (.int .i64 n)).sc (w.heap.size + 1) 2 (.int .i64 k1)).sc (w.heap.size + 1) 3 (.int .i64 k2)).sc (w.heap.size + 1) 4 (.string s)).sc (w.heap.size + 1) 5 (.string nm)).sc (w.heap.size + 1) 6 (.slice Ao ps.length co))
    have HG := Lib.hid (own_farX (own_farX (own_farX (own_farX (own_farX (own_farX (own_farX (own_farX HO.out (p := ⟨w.heap.size, 6, none⟩) (by show w.heap.size < N; omega) (.slice Ao ps.length co)) (p := ⟨w.heap.size + 1, 0, none⟩) (by show w.heap.size + 1 < N; omega) (.int .i64 6)) (p := ⟨w.heap.size + 1, 1, none⟩) (by show w.heap.size + 1 < N; omega) (.int .i64 n)) (p := ⟨w.heap.size + 1, 2, none⟩) (by show w.heap.size + 1 < N; omega) (.int .i64 k1)) (p := ⟨w.heap.size + 1, 3, none⟩) (by show w.heap.size + 1 < N; omega) (.int .i64 k2)) (p := ⟨w.heap.size + 1, 4, none⟩) (by show w.heap.size + 1 < N; omega) (.string s)) (p := ⟨w.heap.size + 1, 5, none⟩) (by show w.heap.size + 1 < N; omega) (.string nm)) (p := ⟨w.heap.size + 1, 6, none⟩) (by show w.heap.size + 1 < N; omega) (.slice Ao ps.length co))
    clear z9 e9 B9 HE0 HZ0 HB0 HZS HR HCF hbr
    go_wp2
    (try simp only [Exit.inBlock, Exit.then]); refine bodyPost_ret_by (results_cell_row1 (by rfl) _ _ (w.heap.size + 1) _ (by rfl) (load_ex HX.out)) ?_ ?_; (focus rfl); refine ⟨.slice Ao ps.length co, by rw [HS.out]; rfl, ?_, HF.out⟩
    have hf := rdE_ownL HG.out hLN hPL (fun p hp => ((HK.out p hp).below HF.out).more HF.out.size (Nat.le_refl _))
    simp only [World.size_setCell] at hf ⊢
    rw [HS.out]
    exact hf
end Go.Proofs.YtdhemhmgenhmaaaGreat
