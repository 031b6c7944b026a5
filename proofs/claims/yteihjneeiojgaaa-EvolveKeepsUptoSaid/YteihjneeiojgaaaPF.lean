import Derived.Test.YteihjneeiojgaaaPD
import Derived.Test.YteihjneeiojgaaaTG
import Derived.Deep.RegionHeld3
import Derived.Deep.DeepCutAuto
import Derived.StillTailTactics
import Derived.WalkKit
import Derived.WalkSpells
import Derived.WalkLawsBesides
import Derived.Deep.QuietTactic
import Derived.BigQuiet
import Derived.Handy
import Derived.Lib.Hide
/-
  schema.Clone: what it answers. Conditions: lengths. (Written by mkSsF.py.)
-/
namespace Go.Proofs.Yteihjneeiojgaaa
set_option maxRecDepth 100000
set_option linter.unusedVariables false
set_option linter.unusedSimpArgs false
open Go.RowKit

theorem sbX_nil0 : ∀ (d : Nat) (e : Ex), sbX [] d e = e
  | 0, _ => rfl
  | d + 1, e => by
    unfold sbX
    rw [if_neg (by rintro ⟨_, _, h⟩; unfold idxB at h; simp at h; omega), show e.args.map (sbX [] d) = e.args from (List.map_congr_left fun a _ => sbX_nil0 d a).trans (List.map_id _)]
    cases e
    rfl
theorem set_same {α : Type} : ∀ (l : List α) (k : Nat) (a : α), l[k]? = some a → l.set k a = l
  | [], _, _, h => by simp at h
  | b :: l, 0, a, h => by injection h with h; subst h; rfl
  | b :: l, k + 1, a, h => by rw [List.set_cons_succ, set_same l k a h]
theorem set_flat (ps : List ExU) (k : Nat) (a b : ExU) (h : ps[k]? = some a) : (((((((flatE ps).set (k * 7) (.int .i64 b.1.op)).set (k * 7 + 1) (.int .i64 b.1.n)).set (k * 7 + 2) (.int .i64 b.1.v.1)).set (k * 7 + 3) (.int .i64 b.1.v.2.1)).set (k * 7 + 4) (.string b.1.v.2.2)).set (k * 7 + 5) (.string b.1.nm)).set (k * 7 + 6) b.2 = flatE (ps.set k b) := by
  have hk := (List.getElem?_eq_some_iff.1 h).1
  have hl := flatE_len ps
  have hl2 := flatE_len (ps.set k b)
  rw [List.length_set] at hl2
  apply List.ext_getElem?
  intro i
  by_cases hi : i < ps.length * 7
  · have hid : i / 7 < ps.length := by omega
    have hr : i % 7 < 7 := Nat.mod_lt _ (by decide)
    have he : i = i / 7 * 7 + i % 7 := by omega
    simp only [List.getElem?_set, List.length_set, hl]
    by_cases hik : i / 7 = k
    · have hg := flatE_get (ps.set k b) (i / 7) b (by rw [List.getElem?_set, if_pos hik.symm, if_pos (by omega)]) (i % 7) hr
      rw [← he] at hg
      rw [hg]
      rcases (by omega : i % 7 = 0 ∨ i % 7 = 1 ∨ i % 7 = 2 ∨ i % 7 = 3 ∨ i % 7 = 4 ∨ i % 7 = 5 ∨ i % 7 = 6) with e | e | e | e | e | e | e
      all_goals
        rw [e]
        rw [e, hik] at he
        subst he
        simp [exL]
        try omega
    · have hg := flatE_get (ps.set k b) (i / 7) ps[i / 7] (by rw [List.getElem?_set, if_neg (fun h => hik h.symm)]; exact List.getElem?_eq_getElem hid) (i % 7) hr
      have hg2 := flatE_get ps (i / 7) ps[i / 7] (List.getElem?_eq_getElem hid) (i % 7) hr
      rw [← he] at hg hg2
      rw [hg, ← hg2]
      rw [if_neg (by omega), if_neg (by omega), if_neg (by omega), if_neg (by omega), if_neg (by omega), if_neg (by omega), if_neg (by omega)]
  · rw [List.getElem?_eq_none (by simp only [List.length_set, hl]; omega), List.getElem?_eq_none (by rw [hl2]; omega)]
/-- The blocks from lo to hi are as they were. -/
def Keep (lo hi : Nat) (W W' : World) : Prop := ∀ b, lo ≤ b → b < hi → W'.heap[b]? = W.heap[b]?
theorem Keep.refl (lo hi : Nat) (W : World) : Keep lo hi W W := fun _ _ _ => rfl
theorem Keep.trans {lo hi : Nat} {A B C : World} (h : Keep lo hi A B) (k : Keep lo hi B C) : Keep lo hi A C := fun b h1 h2 => (k b h1 h2).trans (h b h1 h2)
theorem Keep.of {lo hi B : Nat} {W W' : World} (h : Below B W W') (hb : hi ≤ B) : Keep lo hi W W' := fun b _ h2 => h.block b (by omega)
theorem Keep.set {lo hi : Nat} (W : World) {p : Addr} (hp : p.block < lo ∨ hi ≤ p.block) (u : Value) : Keep lo hi W (W.setCell p u) := fun b h1 h2 => Below.heap_setCell W p u b (by omega)
theorem RdK.keep {W W' : World} {lo hi : Nat} {v : Value} {cs : List Cl} (h : RdK W lo hi v cs) (k : Keep lo hi W W') : RdK W' lo hi v cs := by
  obtain ⟨A, c, hv, hl, hc⟩ := h
  refine ⟨A, c, hv, hl, fun i q hi => ?_⟩
  obtain ⟨ad, h1, h0, h2, h3, h4, h5⟩ := hc i q hi
  have hb := k ad.block h0 h2
  exact ⟨ad, h1, h0, h2, (World.cell?_of_block (by rw [add_blk]; exact hb)).trans h3, (World.cell?_of_block (by show W'.heap[(ad.add (i * 3)).block]? = _; rw [add_blk]; exact hb)).trans h4, (World.cell?_of_block (by show W'.heap[(ad.add (i * 3)).block]? = _; rw [add_blk]; exact hb)).trans h5⟩
theorem RdI.keep {W W' : World} {lo hi : Nat} {v : Value} {zs : List Int} (h : RdI W lo hi v zs) (k : Keep lo hi W W') : RdI W' lo hi v zs := by
  obtain ⟨A, c, hv, hl, hc⟩ := h
  refine ⟨A, c, hv, hl, fun i q hi => ?_⟩
  obtain ⟨ad, h1, h0, h2, h3⟩ := hc i q hi
  exact ⟨ad, h1, h0, h2, (World.cell?_of_block (by rw [add_blk]; exact k ad.block h0 h2)).trans h3⟩
theorem RdF.keep {W W' : World} {lo hi : Nat} {v : Value} {fs : List Fk} (h : RdF W lo hi v fs) (k : Keep lo hi W W') : RdF W' lo hi v fs := by
  obtain ⟨A, c, hv, hl, hc⟩ := h
  refine ⟨A, c, hv, hl, fun i q hi => ?_⟩
  obtain ⟨ad, u, h1, h0, h2, h3, h4, h5⟩ := hc i q hi
  have hb := k ad.block h0 h2
  exact ⟨ad, u, h1, h0, h2, (World.cell?_of_block (by rw [add_blk]; exact hb)).trans h3, (World.cell?_of_block (by show W'.heap[(ad.add (i * 2)).block]? = _; rw [add_blk]; exact hb)).trans h4, h5.keep k⟩
theorem RdE.keep {w w' : World} {L B : Nat} (k : Keep L B w w') : ∀ {d : Nat} {v : Value} {es : List Ex}, RdE w L B d v es → RdE w' L B d v es
  | 0, _, _, h => h
  | d + 1, v, es, ⟨A, c, hv, hl, hc⟩ => ⟨A, c, hv, hl, fun i e hk => by
      obtain ⟨ad, u, h1, h2, h3, h4, h5⟩ := hc i e hk
      have hb := k ad.block h2 h3
      have hb2 : ∀ j, w'.cell? ⟨(ad.add (i * 7)).block, (ad.add (i * 7)).off + j, none⟩ = w.cell? ⟨(ad.add (i * 7)).block, (ad.add (i * 7)).off + j, none⟩ := fun j => World.cell?_of_block (by show w'.heap[(ad.add (i * 7)).block]? = w.heap[(ad.add (i * 7)).block]?; rw [add_blk]; exact hb)
      obtain ⟨q0, q1, q2, q3, q4, q5, q6⟩ := h4
      exact ⟨ad, u, h1, h2, h3, ⟨(World.cell?_of_block (by rw [add_blk]; exact hb)).trans q0, (hb2 1).trans q1, (hb2 2).trans q2, (hb2 3).trans q3, (hb2 4).trans q4, (hb2 5).trans q5, (hb2 6).trans q6⟩, RdE.keep k h5⟩⟩
theorem RdF.low {w : World} {L L' B : Nat} {v : Value} {fs : List Fk} (h : RdF w L B v fs) (hL : L' ≤ L) : RdF w L' B v fs := by
  obtain ⟨A, c, hv, hl, hc⟩ := h
  exact ⟨A, c, hv, hl, fun k z hk => let ⟨ad, u, h1, h2, h3, h4, h5, h6⟩ := hc k z hk; ⟨ad, u, h1, Nat.le_trans hL h2, h3, h4, h5, h6.low hL⟩⟩
theorem own_setK {w : World} {base n s : Nat} {t : TypeId} {v : Value} {xs : List Value} (h : w.ownsRow base t s v n xs) {p : Addr} (hp : p.block < base) (u : Value) : (w.setCell p u).ownsRow base t s v n xs := by
  refine ⟨h.1, ?_⟩
  rcases h.2 with h0 | ⟨g, cap, cur, rfl, hb, hh, hr⟩
  · exact .inl h0
  · exact .inr ⟨g, cap, cur, rfl, hb, (Below.heap_setCell w p u g (by omega)).trans hh, hr⟩
theorem own_below2 {w w' : World} {base n s : Nat} {t : TypeId} {v : Value} {xs : List Value} (h : w.ownsRow base t s v n xs) (hb : Below w.heap.size w w') : w'.ownsRow base t s v n xs := by
  refine ⟨h.1, ?_⟩
  have h2 := h
  rcases h.2 with h0 | ⟨g, cap, cur, rfl, hg, hh, hr⟩
  · exact .inl h0
  · exact .inr ⟨g, cap, cur, rfl, hg, (hb.block g (h2.lt g rfl).2).trans hh, hr⟩
theorem rdE_ownM {w : World} {base L d : Nat} {v : Value} {ps : List ExU} (h : w.ownsRow base 65 7 v ps.length (flatE ps)) (hL : L ≤ base) (hl : ps.length ≤ 1099511627776) (hkid : ∀ p ∈ ps, RdE w L w.heap.size d p.2 p.1.args) : RdE w L w.heap.size (d + 1) v (ps.map (·.1)) := by
  rcases h.2 with ⟨rfl, h0⟩ | ⟨g, cap, cur, rfl, hb, hh, hn, hc, hs, ht⟩
  · obtain rfl := List.eq_nil_of_length_eq_zero h0
    exact ⟨none, 0, rfl, by simp, fun k e hk => by simp at hk⟩
  · have hg : g < w.heap.size := by
      rcases Nat.lt_or_ge g w.heap.size with h1 | h1
      · exact h1
      · rw [Array.getElem?_eq_none h1] at hh; cases hh
    have he : ∀ i u, (flatE ps)[i]? = some u → w.cell? ⟨g, i, none⟩ = some u := fun i u hu => by
      rw [cell_of_row w g i cur _ _ hh, ← Array.getElem?_toList]
      rw [← ht, List.getElem?_take] at hu
      split at hu
      · exact hu
      · cases hu
    refine ⟨some ⟨g, 0, none⟩, cap, by rw [List.length_map], by rw [List.length_map]; exact hl, fun k e hk => ?_⟩
    rw [List.getElem?_map] at hk
    obtain ⟨p, hp, rfl⟩ := Option.map_eq_some_iff.1 hk
    refine ⟨⟨g, 0, none⟩, p.2, rfl, Nat.le_trans hL hb, hg, ?_, hkid p (List.mem_of_getElem? hp)⟩
    rw [addX]
    have G := fun j hj u hu => he (k * 7 + j) u ((flatE_get ps k p hp j hj).trans hu)
    exact ⟨G 0 (by decide) _ rfl, G 1 (by decide) _ rfl, G 2 (by decide) _ rfl, G 3 (by decide) _ rfl, G 4 (by decide) _ rfl, G 5 (by decide) _ rfl, G 6 (by decide) _ rfl⟩
theorem takeD {P : Program} {md : Region.Mode} {ops : Array Oper} {Q : Exit → Act → World → Prop} {S : World → Prop} {i d : Nat} {oi : Oper} {v : Value} {fuel : Nat} {listed : Array Bool} {a : Act} {w : World} (hi : ops[i]? = some oi) (hd : oi.dst = some d)
    (hs : Region.noSelect ops = true) (hf : Region.free md ops listed i = true) (hr : (Region.ready md ops listed).contains i = true)
    (hQ : ∀ c a w, Q (.panic c) (a.put oi.dst v) w → Q (.panic c) a w) (hy : YieldsIf P ops S oi v a) (hS : S w)
    (h : wpAnyH P md ops Q S fuel (listed.setIfInBounds i true) (a.put (some d) v) w) : wpAnyH P md ops Q S (fuel + 1) listed a w :=
  wpAnyH_take hi hs hf hr hQ hy hS (by rw [hd]; exact h)
theorem load_tabF {w : World} {g : Nat} {x0 x1 x2 x3 x4 : Value} (h : Own w g 27 #[x0, x1, x2, x3, x4]) : (loadVar 27 ⟨g, 0, none⟩).run Try.prog w = .ok (.agg #[x0, x1, x2, x3, x4]) w :=
  run_loadVar_row w g 27 27 #[x0, x1, x2, x3, x4] (0, 0) _ h Try.underlying27 rfl (by kernel_rfl)
theorem shK {w : World} {L B : Nat} {v : Value} {cs : List Cl} (h : RdK w L B v cs) : ∃ A c, v = .slice A cs.length c := by obtain ⟨A, c, h1, _⟩ := h; exact ⟨A, c, h1⟩
theorem shI {w : World} {L B : Nat} {v : Value} {cs : List Int} (h : RdI w L B v cs) : ∃ A c, v = .slice A cs.length c := by obtain ⟨A, c, h1, _⟩ := h; exact ⟨A, c, h1⟩
theorem shF {w : World} {L B : Nat} {v : Value} {cs : List Fk} (h : RdF w L B v cs) : ∃ A c, v = .slice A cs.length c := by obtain ⟨A, c, h1, _⟩ := h; exact ⟨A, c, h1⟩
set_option maxRecDepth 100000 in
set_option maxHeartbeats 25600000 in
theorem pCloT_any (nm : ByteArray) (u1 u2 u3 u4 : Value) (cs : List Cl) (zs : List Int) (fs : List Fk) (es : List Ex) (d : Nat) (w : World)
    (h1 : RdK w 0 w.heap.size u1 cs) (h2 : RdI w 0 w.heap.size u2 zs) (h3 : RdF w 0 w.heap.size u3 fs) (h4 : RdE w 0 w.heap.size (d + 1) u4 es) (l1 : cs.length ≤ 1099511627776) (l2 : zs.length ≤ 1099511627776) (l3 : fs.length ≤ 1099511627776) (l5 : ∀ f ∈ fs, f.1.length ≤ 1099511627776) :
    Calls Try.prog 14 #[.agg #[.string nm, u1, u2, u3, u4]] w fun e w' => ∃ v1 v2 v3 v4, e = .returned (.agg #[.string nm, v1, v2, v3, v4]) ∧ RdK w' 0 w'.heap.size v1 cs ∧ RdI w' 0 w'.heap.size v2 zs ∧ RdF w' 0 w'.heap.size v3 fs ∧ RdE w' 0 w'.heap.size (d + 2) v4 es ∧ Below w.heap.size w w' := by
  have T1 := Lib.hid (fun (W : World) (hb : Below w.heap.size w W) => pClC_any u1 cs W 0 (h1.step hb (Nat.le_refl _)) l1)
  have T2 := Lib.hid (fun (W : World) (hb : Below w.heap.size w W) => pClI_any u2 zs W 0 (h2.step hb (Nat.le_refl _)) l2)
  have T3 := Lib.hid (fun (W : World) (hb : Below w.heap.size w W) => pClF_any u3 fs W 0 w.heap.size (h3.below hb) l3)
  have T4 := Lib.hid (fun (W : World) (hb : Below w.heap.size w W) => pClE_any d u4 es W 0 w.heap.size (h4.below hb))
  have HL5 := Lib.hid l5
  obtain ⟨A1, c1, e1⟩ := shK h1
  obtain ⟨A2, c2, e2⟩ := shI h2
  obtain ⟨A3, c3, e3⟩ := shF h3
  obtain ⟨A4, c4, e4, l4⟩ := h4.slice
  subst e1 e2 e3 e4
  have HO := Lib.hid (show Own ((w.alloc (.cells #[.string nm, .slice A1 cs.length c1, .slice A2 zs.length c2, .slice A3 fs.length c3, .slice A4 es.length c4] 27)).alloc (.cells #[.string ⟨#[]⟩, .slice none 0 0, .slice none 0 0, .slice none 0 0, .slice none 0 0] 27)) w.heap.size 27 #[.string nm, .slice A1 cs.length c1, .slice A2 zs.length c2, .slice A3 fs.length c3, .slice A4 es.length c4] from (Own.new w _ _).alloc _)
  have HZ := Lib.hid (show Own ((w.alloc (.cells #[.string nm, .slice A1 cs.length c1, .slice A2 zs.length c2, .slice A3 fs.length c3, .slice A4 es.length c4] 27)).alloc (.cells #[.string ⟨#[]⟩, .slice none 0 0, .slice none 0 0, .slice none 0 0, .slice none 0 0] 27)) (w.heap.size + 1) 27 #[.string ⟨#[]⟩, .slice none 0 0, .slice none 0 0, .slice none 0 0, .slice none 0 0] from own_two2 _)
  have HB := Lib.hid (show Below w.heap.size w ((w.alloc (.cells #[.string nm, .slice A1 cs.length c1, .slice A2 zs.length c2, .slice A3 fs.length c3, .slice A4 es.length c4] 27)).alloc (.cells #[.string ⟨#[]⟩, .slice none 0 0, .slice none 0 0, .slice none 0 0, .slice none 0 0] 27)) from (bel_mk w _).trans ((bel_mk _ _).mono (by simp)))
  clear h1 h2 h3 h4 l5
  have HZS := Lib.hid (show w.heap.size + 1 < ((w.alloc (.cells #[.string nm, .slice A1 cs.length c1, .slice A2 zs.length c2, .slice A3 fs.length c3, .slice A4 es.length c4] 27)).alloc (.cells #[.string ⟨#[]⟩, .slice none 0 0, .slice none 0 0, .slice none 0 0, .slice none 0 0] 27)).heap.size from by simp)
  have b0 := HO.out.cell 0
  have b1 := HO.out.cell 1
  have b2 := HO.out.cell 2
  have b3 := HO.out.cell 3
  have b4 := HO.out.cell 4
  go_enter Try.func14, Try.ntmps14
  go_wp2_with fail
  generalize hW0 : (w.alloc (.cells #[.string nm, .slice A1 cs.length c1, .slice A2 zs.length c2, .slice A3 fs.length c3, .slice A4 es.length c4] 27)).alloc (.cells #[.string ⟨#[]⟩, .slice none 0 0, .slice none 0 0, .slice none 0 0, .slice none 0 0] 27) = W0 at *
  clear hW0
  with_reducible refine (T1.out _ HB.out).mono ?_
  rintro e1 x1 ⟨v1, rfl, k1, hb⟩
  obtain ⟨A5, c5, rfl⟩ := shK k1
  replace HO := Lib.hid (HO.out.below hb HO.out.lt)
  replace HZ := Lib.hid (HZ.out.below hb HZ.out.lt)
  replace HB := Lib.hid (HB.out.trans (hb.mono HB.out.size))
  have HZ1 := Lib.hid (show w.heap.size + 1 < x1.heap.size from HZ.out.lt)
  have hs0 : w.heap.size + 1 < W0.heap.size := HZS.out
  have HK1 := Lib.hid (RdK.low k1 (show w.heap.size + 2 ≤ W0.heap.size from by omega))
  clear k1 hs0
  clear hb T1 b0 b1 b2 b3 b4
  have b0 := HO.out.cell 0
  have b1 := HO.out.cell 1
  have b2 := HO.out.cell 2
  have b3 := HO.out.cell 3
  have b4 := HO.out.cell 4
  have m1 := HO.out.free 1
  have HO9 := Lib.hid (show Own (x1.setCell ⟨w.heap.size, 1, none⟩ (.slice A5 cs.length c5)) w.heap.size 27 #[.string nm, .slice A5 cs.length c5, .slice A2 zs.length c2, .slice A3 fs.length c3, .slice A4 es.length c4] from by have h := HO.out.store 1 (.slice A5 cs.length c5); simp only [List.setIfInBounds_toArray, List.set_cons_zero, List.set_cons_succ] at h; exact h)
  have HZ9 := Lib.hid (HZ.out.far (p := ⟨w.heap.size, 1, none⟩) (by show w.heap.size + 1 ≠ w.heap.size; omega) (.slice A5 cs.length c5))
  have HB9 := Lib.hid (HB.out.setCell (p := ⟨w.heap.size, 1, none⟩) (Nat.le_refl _) (.slice A5 cs.length c5))
  have HK9 := Lib.hid (HK1.out.keep (Keep.set x1 (p := ⟨w.heap.size, 1, none⟩) (.inl (by show w.heap.size < _; omega)) (.slice A5 cs.length c5)))
  clear HK1 HO HZ HB
  go_wp2_with fail
  generalize hi1 : x1.heap.size = hi at *
  have hsz : (x1.setCell ⟨w.heap.size, 1, none⟩ (.slice A5 cs.length c5)).heap.size = hi := by rw [World.size_setCell]; exact hi1
  generalize x1.setCell ⟨w.heap.size, 1, none⟩ (.slice A5 cs.length c5) = X at *
  have HO := HO9
  have HZ := HZ9
  have HB := HB9
  have HSZ := Lib.hid hsz
  clear HO9 HZ9 HB9 hsz m1 hi1 x1 b0 b1 b2 b3 b4
  have b0 := HO.out.cell 0
  have b1 := HO.out.cell 1
  have b2 := HO.out.cell 2
  have b3 := HO.out.cell 3
  have b4 := HO.out.cell 4
  with_reducible refine (T2.out _ HB.out).mono ?_
  rintro e2 x2 ⟨v2, rfl, k2, hb⟩
  obtain ⟨A6, c6, rfl⟩ := shI k2
  replace HO := Lib.hid (HO.out.below hb HO.out.lt)
  replace HZ := Lib.hid (HZ.out.below hb HZ.out.lt)
  replace HB := Lib.hid (HB.out.trans (hb.mono HB.out.size))
  have HZ2 := Lib.hid (show w.heap.size + 1 < x2.heap.size from HZ.out.lt)
  have HK1 := Lib.hid ((HK9.out.keep (Keep.of hb (Nat.le_of_eq HSZ.out.symm))).more (show hi ≤ x2.heap.size from by have := hb.size; have := HSZ.out; omega))
  have HI1 := Lib.hid (RdI.low k2 (show w.heap.size + 2 ≤ X.heap.size from by have := HZ1.out; have := HSZ.out; omega))
  clear k2 HK9
  clear hb T2 b0 b1 b2 b3 b4
  have b0 := HO.out.cell 0
  have b1 := HO.out.cell 1
  have b2 := HO.out.cell 2
  have b3 := HO.out.cell 3
  have b4 := HO.out.cell 4
  have m2 := HO.out.free 2
  have HO9 := Lib.hid (show Own (x2.setCell ⟨w.heap.size, 2, none⟩ (.slice A6 zs.length c6)) w.heap.size 27 #[.string nm, .slice A5 cs.length c5, .slice A6 zs.length c6, .slice A3 fs.length c3, .slice A4 es.length c4] from by have h := HO.out.store 2 (.slice A6 zs.length c6); simp only [List.setIfInBounds_toArray, List.set_cons_zero, List.set_cons_succ] at h; exact h)
  have HZ9 := Lib.hid (HZ.out.far (p := ⟨w.heap.size, 2, none⟩) (by show w.heap.size + 1 ≠ w.heap.size; omega) (.slice A6 zs.length c6))
  have HB9 := Lib.hid (HB.out.setCell (p := ⟨w.heap.size, 2, none⟩) (Nat.le_refl _) (.slice A6 zs.length c6))
  have HK9 := Lib.hid (HK1.out.keep (Keep.set x2 (p := ⟨w.heap.size, 2, none⟩) (.inl (by show w.heap.size < _; omega)) (.slice A6 zs.length c6)))
  have HI9 := Lib.hid (HI1.out.keep (Keep.set x2 (p := ⟨w.heap.size, 2, none⟩) (.inl (by show w.heap.size < _; omega)) (.slice A6 zs.length c6)))
  clear HK1 HI1 HO HZ HB HSZ HZ1
  go_wp2_with fail
  generalize hi2 : x2.heap.size = hj at *
  have hsz : (x2.setCell ⟨w.heap.size, 2, none⟩ (.slice A6 zs.length c6)).heap.size = hj := by rw [World.size_setCell]; exact hi2
  generalize x2.setCell ⟨w.heap.size, 2, none⟩ (.slice A6 zs.length c6) = Y at *
  have HO := HO9
  have HZ := HZ9
  have HB := HB9
  have HSZ := Lib.hid hsz
  clear HO9 HZ9 HB9 hsz m2 hi2 x2 X hi b0 b1 b2 b3 b4
  have b0 := HO.out.cell 0
  have b1 := HO.out.cell 1
  have b2 := HO.out.cell 2
  have b3 := HO.out.cell 3
  have b4 := HO.out.cell 4
  have HBY := HB
  with_reducible refine (T3.out _ HB.out).mono ?_
  rintro e3 x3 ⟨v3, qs, rfl, hq1, hq2, hq3, hb⟩
  obtain ⟨A7, c7, rfl⟩ : ∃ A c, v3 = .slice A qs.length c := by rcases own_row hq3 with ⟨h5, h6⟩ | ⟨g, c, h5, _⟩ <;> exact ⟨_, _, by first | exact h5 | (rw [h6]; exact h5)⟩
  replace HO := Lib.hid (HO.out.below hb HO.out.lt)
  replace HZ := Lib.hid (HZ.out.below hb HZ.out.lt)
  replace HB := Lib.hid (HB.out.trans (hb.mono HB.out.size))
  have HZ3 := Lib.hid (show w.heap.size + 1 < x3.heap.size from HZ.out.lt)
  have HK1 := Lib.hid (HK9.out.keep (Keep.of hb (Nat.le_of_eq HSZ.out.symm)))
  have HI1 := Lib.hid (HI9.out.keep (Keep.of hb (Nat.le_of_eq HSZ.out.symm)))
  have hj3 : hj ≤ x3.heap.size := by have := hb.size; have := HSZ.out; omega
  rw [HSZ.out] at hq3
  have HQ1 := Lib.hid hq1
  have HQ2 := Lib.hid (show ∀ q ∈ qs, RdI w 0 w.heap.size q.2 q.1.1 from fun q hq => (hq2 q hq).keep (fun b _ h => (HBY.out.block b h).symm))
  have HQ3 := Lib.hid hq3
  clear HK9 HI9 hq1 hq2 hq3
  clear hb T3 b0 b1 b2 b3 b4
  have b0 := HO.out.cell 0
  have b1 := HO.out.cell 1
  have b2 := HO.out.cell 2
  have b3 := HO.out.cell 3
  have b4 := HO.out.cell 4
  have m3 := HO.out.free 3
  have HO9 := Lib.hid (show Own (x3.setCell ⟨w.heap.size, 3, none⟩ (.slice A7 qs.length c7)) w.heap.size 27 #[.string nm, .slice A5 cs.length c5, .slice A6 zs.length c6, .slice A7 qs.length c7, .slice A4 es.length c4] from by have h := HO.out.store 3 (.slice A7 qs.length c7); simp only [List.setIfInBounds_toArray, List.set_cons_zero, List.set_cons_succ] at h; exact h)
  have HZ9 := Lib.hid (HZ.out.far (p := ⟨w.heap.size, 3, none⟩) (by show w.heap.size + 1 ≠ w.heap.size; omega) (.slice A7 qs.length c7))
  have HB9 := Lib.hid (HB.out.setCell (p := ⟨w.heap.size, 3, none⟩) (Nat.le_refl _) (.slice A7 qs.length c7))
  have HK9 := Lib.hid (HK1.out.keep (Keep.set x3 (p := ⟨w.heap.size, 3, none⟩) (.inl (by show w.heap.size < _; omega)) (.slice A7 qs.length c7)))
  have HI9 := Lib.hid (HI1.out.keep (Keep.set x3 (p := ⟨w.heap.size, 3, none⟩) (.inl (by show w.heap.size < _; omega)) (.slice A7 qs.length c7)))
  have HQ9 := Lib.hid (own_setK HQ3.out (p := ⟨w.heap.size, 3, none⟩) (by show w.heap.size < hj; have := HZ2.out; omega) (.slice A7 qs.length c7))
  clear HK1 HI1 HQ3 HO HZ HB HSZ
  have hlo : w.heap.size + 1 < hj := HZ2.out
  go_upto_region 5 with fail
  have hm3 : (x3.setCell ⟨w.heap.size, 3, none⟩ (.slice A7 qs.length c7)).heap.size = x3.heap.size := World.size_setCell ..
  generalize x3.setCell ⟨w.heap.size, 3, none⟩ (.slice A7 qs.length c7) = Y3 at *
  rw [← hm3] at hj3
  clear HZ2 HZ3 b0 b1 b2 b3 b4 m3 hm3 x3
  have HO := HO9
  have HZ := HZ9
  have HB := HB9
  have HG := Lib.hid (show ∀ g, A7 = some (⟨g, 0, none⟩ : Addr) → hj ≤ g ∧ g < Y3.heap.size from fun g hg => by
    rcases own_row HQ9.out with ⟨h5, _⟩ | ⟨g', c', h5, h6, h7, _⟩
    · injection h5 with h5; rw [hg] at h5; cases h5
    · injection h5 with h5; rw [hg] at h5; injection h5 with h5; injection h5 with h5; subst h5; exact ⟨h6, h7⟩)
  have hql : qs.length ≤ 1099511627776 := by have := congrArg List.length HQ1.out; rw [List.length_map] at this; omega
  clear HO9 HZ9 HB9
  go_loopw [22] (fun i wr => ∃ (k : Nat) (ps : List FkU), k ≤ qs.length ∧ i = .int .i64 k ∧ Hid (ps.length = qs.length) ∧ Hid (ps.map (·.1) = fs) ∧ Hid (wr.ownsRow hj 54 2 (.slice A7 qs.length c7) qs.length (ps.flatMap fF)) ∧ Hid (∀ j q, ps[j]? = some q → (j < k → RdI wr Y3.heap.size wr.heap.size q.2 q.1.1) ∧ (k ≤ j → RdI w 0 w.heap.size q.2 q.1.1)) ∧ Hid (Own wr w.heap.size 27 #[.string nm, .slice A5 cs.length c5, .slice A6 zs.length c6, .slice A7 qs.length c7, .slice A4 es.length c4]) ∧ Hid (Own wr (w.heap.size + 1) 27 #[.string ⟨#[]⟩, .slice none 0 0, .slice none 0 0, .slice none 0 0, .slice none 0 0]) ∧ Hid (Keep (w.heap.size + 2) hj Y3 wr) ∧ Below w.heap.size w wr ∧ Y3.heap.size ≤ wr.heap.size) (fun i _ => qs.length - (intOf i).toNat)
  case atStart => exact ⟨0, qs, Nat.zero_le _, rfl, Lib.hid rfl, HQ1, HQ9, Lib.hid (fun j q hq => ⟨fun h => absurd h (Nat.not_lt_zero _), fun _ => HQ2.out q (List.mem_of_getElem? hq)⟩), HO, HZ, Lib.hid (Keep.refl _ _ _), HB.out, Nat.le_refl _⟩
  case round =>
    clear HO HZ HB HQ9
    obtain ⟨k, ps, hk, rfl, HPL, HP1, HQ, HPE, HO, HZ, HKE, hbr, hmr⟩ := hrel
    have hbz := hbr.size
    by_cases hlt : k < qs.length
    · have hki : (k : Int) < qs.length := by omega
      have hki0 : (0 : Int) ≤ (k : Int) := by omega
      have hlp : k < ps.length := by have := HPL.out; omega
      have hq := List.getElem?_eq_getElem hlp
      have hel := (HPE.out k _ hq).2 (Nat.le_refl _)
      have hmem : ps[k].1 ∈ fs := by rw [← HP1.out]; exact List.mem_map_of_mem (List.getElem_mem hlp)
      have hz8 := HL5.out _ hmem
      obtain ⟨g, c', hA7, hg1, hg2, hcc⟩ : ∃ (g _ : Nat), A7 = some (⟨g, 0, none⟩ : Addr) ∧ hj ≤ g ∧ g < Y3.heap.size ∧ ∀ j u, (ps.flatMap fF)[j]? = some u → wr.cell? ⟨g, j, none⟩ = some u ∧ True := by
        rcases own_row HQ.out with ⟨h5, h6⟩ | ⟨g', c', h5, h6, h7, h8⟩
        · omega
        · injection h5 with h5 _ _
          obtain ⟨h9, h10⟩ := HG.out g' h5
          exact ⟨g', 0, h5, h9, h10, fun j u hu => ⟨by have := h8 j u hu; rwa [addX] at this, trivial⟩⟩
      have hf0 := fm_get fF_len ps k _ hq 0 (by decide)
      have hf1 := fm_get fF_len ps k _ hq 1 (by decide)
      generalize ps[k] = q at *
      obtain ⟨⟨zk, sk⟩, uk⟩ := q
      dsimp only at hel hz8
      have n0 := (hcc _ _ hf0).1
      have n1 := (hcc _ _ hf1).1
      subst hA7
      have HNE := Lib.hid hq
      obtain ⟨A8, n8, c8, rfl⟩ : ∃ A n c, uk = .slice A n c := by obtain ⟨A, c, h, _⟩ := hel; exact ⟨_, _, _, h⟩
      have HEL := Lib.hid hel
      clear hcc hf0 hf1 hq hmem hel hlp
      have z3 := HO.out.cell 3
      rw [Nat.add_zero] at n0
      have hfx := fun (W : World) (h : W.ownsRow hj 54 2 (.slice (some ⟨g, 0, none⟩) qs.length c7) qs.length (ps.flatMap fF)) => World.ownsRow.frozenAt h (k * 2)
      have HFX := Lib.hid hfx
      have bV := bel_mk wr (.cells #[.slice A8 n8 c8, .string sk] 54)
      have HV := Lib.hid (Own.new wr 54 #[.slice A8 n8 c8, .string sk])
      have HBV := Lib.hid bV
      go_upto_region 7 with fail
      generalize hVV : wr.alloc (.cells #[.slice A8 n8 c8, .string sk] 54) = V at *
      clear bV n1 hVV hfx
      have HQV := Lib.hid (own_below2 HQ.out HBV.out)
      have HOV := Lib.hid (HO.out.below HBV.out HO.out.lt)
      have n0V := (HBV.out.cell (p := ⟨g, k * 2, none⟩) (by show g < wr.heap.size; omega)).trans n0
      have HN0 := Lib.hid n0V
      have hgV : g < V.heap.size := by have := HBV.out.size; omega
      have HS := Lib.hid (show ∀ w', Below V.drew.heap.size V.drew w' → (w'.cell? ⟨w.heap.size, 3, none⟩ = some (.slice (some ⟨g, 0, none⟩) qs.length c7) ∧ w'.cell? ⟨wr.heap.size, 0, none⟩ = some (.slice A8 n8 c8)) from fun w' hb => ⟨((show Own V.drew _ _ _ from HOV.out).below hb HOV.out.lt).cell 3, ((show Own V.drew _ _ _ from HV.out).below hb HV.out.lt).cell 0⟩)
      have HCI := Lib.hid (pClI_any (.slice A8 n8 c8) zk V.drew 0 (HEL.out.step (hbr.trans ((HBV.out.drew).mono hbz)) (Nat.le_refl _)) hz8)
      clear n0 n0V z3
      go_region_held3 (fun w' => w'.cell? ⟨w.heap.size, 3, none⟩ = some (.slice (some ⟨g, 0, none⟩) qs.length c7) ∧ w'.cell? ⟨wr.heap.size, 0, none⟩ = some (.slice A8 n8 c8))
        (first | (exact HS.out _ (Below.refl _ _)) | (exact HS.out _ hb) | (exact ⟨(World.cell?_setCell_far _ ⟨g, k * 2, none⟩ _ _ (by show g ≠ w.heap.size; omega)).trans (HS.out _ hb).1, (World.cell?_setCell_far _ ⟨g, k * 2, none⟩ _ _ (by show g ≠ wr.heap.size; omega)).trans (HS.out _ hb).2⟩))
        ((go_at_call 28; refine HCI.out.mono ?_; rintro e5 w5 ⟨v5, rfl, k5, hb⟩; obtain ⟨A9, c9, rfl⟩ := shI k5; have m0 := (hb.cell (p := ⟨g, k * 2, none⟩) hgV).trans HN0.out; have m1 := (hb.frozen (p := ⟨g, k * 2, none⟩) hgV).trans (show V.frozen? ⟨g, k * 2, none⟩ = false from HFX.out V HQV.out)))
      have hbV5 : Below V.heap.size V w5 := ((Below.refl V.heap.size V).drew).trans hb
      have hw5 : Below wr.heap.size wr w5 := HBV.out.trans (hbV5.mono HBV.out.size)
      have hs5 := hw5.size
      have hVr := HBV.out.size
      have HQ5 := (World.ownsRow.stored (own_below2 HQV.out hbV5) (k * 2) (.slice A9 zk.length c9)).1
      have hset := fm_set fF_len 0 (.slice A9 zk.length c9) (by decide) ps k _ ((zk, sk), .slice A9 zk.length c9) HNE.out rfl
      rw [Nat.add_zero] at hset
      rw [hset] at HQ5
      have HQ6 := Lib.hid HQ5
      have HP6 := Lib.hid (show (ps.set k ((zk, sk), .slice A9 zk.length c9)).map (·.1) = fs from by
        rw [List.map_set, ← HP1.out]
        exact set_same _ _ _ (by rw [List.getElem?_map, HNE.out]; rfl))
      have HE6 := Lib.hid (show ∀ j q, (ps.set k ((zk, sk), .slice A9 zk.length c9))[j]? = some q → (j < k + 1 → RdI (w5.setCell ⟨g, k * 2, none⟩ (.slice A9 zk.length c9)) Y3.heap.size (w5.setCell ⟨g, k * 2, none⟩ (.slice A9 zk.length c9)).heap.size q.2 q.1.1) ∧ (k + 1 ≤ j → RdI w 0 w.heap.size q.2 q.1.1) from fun j q hq => by
        rw [World.size_setCell]
        rw [List.getElem?_set] at hq
        by_cases hjk : k = j
        · subst hjk
          rw [if_pos rfl] at hq
          split at hq
          · injection hq with hq
            subst hq
            exact ⟨fun _ => (k5.low (show Y3.heap.size ≤ V.heap.size by omega)).far (by show g < _; omega) _, fun h => by omega⟩
          · cases hq
        · rw [if_neg hjk] at hq
          obtain ⟨h1, h2⟩ := HPE.out j q hq
          exact ⟨fun h => ((h1 (by omega)).step hw5 (Nat.le_refl _)).far (by show g < _; omega) _, fun h => h2 (by omega)⟩)
      have HO6 := Lib.hid ((HO.out.below hw5 HO.out.lt).far (p := ⟨g, k * 2, none⟩) (by show w.heap.size ≠ g; omega) (.slice A9 zk.length c9))
      have HZ6 := Lib.hid ((HZ.out.below hw5 HZ.out.lt).far (p := ⟨g, k * 2, none⟩) (by show w.heap.size + 1 ≠ g; omega) (.slice A9 zk.length c9))
      have HK6 := Lib.hid ((HKE.out.trans (Keep.of hw5 (show hj ≤ wr.heap.size by omega))).trans (Keep.set w5 (p := ⟨g, k * 2, none⟩) (.inr hg1) (.slice A9 zk.length c9)))
      have HB6 := Lib.hid ((hbr.trans (hw5.mono hbz)).setCell (p := ⟨g, k * 2, none⟩) (by show w.heap.size ≤ g; omega) (.slice A9 zk.length c9))
      have HM6 := Lib.hid (show Y3.heap.size ≤ (w5.setCell ⟨g, k * 2, none⟩ (.slice A9 zk.length c9)).heap.size by rw [World.size_setCell]; omega)
      have HL6 := Lib.hid (show (ps.set k ((zk, sk), .slice A9 zk.length c9)).length = qs.length by rw [List.length_set]; exact HPL.out)
      clear hbV5 hw5 hs5 hVr HQ5 hset hb k5 m0 m1 HQV HOV HV HBV HN0 HS HCI HFX HEL HNE HPE HQ HO HZ HKE HP1 hg2
      go_wp2
      go_roundw
      case rel => exact ⟨k + 1, _, by omega, by go_num, HL6, HP6, HQ6, HE6, HO6, HZ6, HK6, HB6.out, HM6.out⟩
      case measure => simp [intOf]; omega
    · have hki : ¬ (k : Int) < qs.length := by omega
      have hkq : k = qs.length := by omega
      have HKX := Lib.hid ((HK9.out.keep HKE.out).more (show hj ≤ wr.heap.size by omega))
      have HIX := Lib.hid ((HI9.out.keep HKE.out).more (show hj ≤ wr.heap.size by omega))
      have HFX := Lib.hid (show RdF wr (w.heap.size + 2) wr.heap.size (.slice A7 qs.length c7) fs from by
        have hown := HQ.out
        rw [← HPL.out] at hown ⊢
        have h := rdF_ownL hown (show w.heap.size + 2 ≤ hj by omega) (by have := HPL.out; omega) (fun q hq => by
          obtain ⟨j, hj1, rfl⟩ := List.getElem_of_mem hq
          exact ((HPE.out j _ (List.getElem?_eq_getElem hj1)).1 (by have := HPL.out; omega)).low (by omega))
        rw [HP1.out] at h
        exact h)
      have HBX := Lib.hid hbr
      clear HK9 HI9 HPE HQ HPL HP1 HKE hkq HG HQ1 HQ2 HBY
      have b0 := HO.out.cell 0
      have b1 := HO.out.cell 1
      have b2 := HO.out.cell 2
      have b3 := HO.out.cell 3
      have b4 := HO.out.cell 4
      go_wp2_with fail
      have HB := HBX
      have hx5 : Y3.heap.size ≤ wr.heap.size := hmr
      with_reducible refine (T4.out _ HB.out).mono ?_
      rintro e4 x4 ⟨v4, rs, rfl, hp1, hp2, hp3, hb⟩
      obtain ⟨A9, c9, rfl⟩ : ∃ A c, v4 = .slice A rs.length c := by rcases own_row hp3 with ⟨h5, h6⟩ | ⟨g, c, h5, _⟩ <;> exact ⟨_, _, by first | exact h5 | (rw [h6]; exact h5)⟩
      have HP2 := Lib.hid (show ∀ p ∈ rs, RdE w 0 w.heap.size d p.2 p.1.args from fun p hp => (hp2 p hp).keep (fun b _ h => (hbr.block b h).symm))
      have HP1 := Lib.hid hp1
      replace HO := Lib.hid (HO.out.below hb HO.out.lt)
      replace HZ := Lib.hid (HZ.out.below hb HZ.out.lt)
      replace HB := Lib.hid (HB.out.trans (hb.mono HB.out.size))
      have hx4 := hb.size
      have ks := Keep.set x4 (lo := w.heap.size + 2) (hi := wr.heap.size) (p := ⟨w.heap.size, 4, none⟩) (.inl (by show w.heap.size < _; omega)) (.slice A9 rs.length c9)
      have kk := (Keep.of hb (lo := w.heap.size + 2) (hi := wr.heap.size) (Nat.le_refl _)).trans ks
      replace HKX := Lib.hid (HKX.out.keep kk)
      replace HIX := Lib.hid (HIX.out.keep kk)
      replace HFX := Lib.hid (HFX.out.keep kk)
      have HR9 := Lib.hid (own_setK hp3 (p := ⟨w.heap.size, 4, none⟩) (by show w.heap.size < wr.heap.size; omega) (.slice A9 rs.length c9))
      clear hb T4 b0 b1 b2 b3 b4 hp1 hp2 hp3 ks kk HBX
      have b0 := HO.out.cell 0
      have b1 := HO.out.cell 1
      have b2 := HO.out.cell 2
      have b3 := HO.out.cell 3
      have b4 := HO.out.cell 4
      have m4 := HO.out.free 4
      have HO9 := Lib.hid (show Own (x4.setCell ⟨w.heap.size, 4, none⟩ (.slice A9 rs.length c9)) w.heap.size 27 #[.string nm, .slice A5 cs.length c5, .slice A6 zs.length c6, .slice A7 qs.length c7, .slice A9 rs.length c9] from by have h := HO.out.store 4 (.slice A9 rs.length c9); simp only [List.setIfInBounds_toArray, List.set_cons_zero, List.set_cons_succ] at h; exact h)
      have HZ9 := Lib.hid (HZ.out.far (p := ⟨w.heap.size, 4, none⟩) (by show w.heap.size + 1 ≠ w.heap.size; omega) (.slice A9 rs.length c9))
      have HB9 := Lib.hid (HB.out.setCell (p := ⟨w.heap.size, 4, none⟩) (Nat.le_refl _) (.slice A9 rs.length c9))
      clear HO HZ HB
      go_upto_region 11 with fail
      have hm3 : (x4.setCell ⟨w.heap.size, 4, none⟩ (.slice A9 rs.length c9)).heap.size = x4.heap.size := World.size_setCell ..
      generalize x4.setCell ⟨w.heap.size, 4, none⟩ (.slice A9 rs.length c9) = Y4 at *
      rw [← hm3] at hx4
      clear b0 b1 b2 b3 b4 m4 hm3 x4
      have hxw : w.heap.size + 2 ≤ wr.heap.size := by omega
      clear hbr hbz hmr hk hlt hki hj3 hx5
      generalize hxx : wr.heap.size = hx at *
      clear hxx
      have HG := Lib.hid (show ∀ g, A9 = some (⟨g, 0, none⟩ : Addr) → hx ≤ g ∧ g < Y4.heap.size from fun g hg => by
        rcases own_row HR9.out with ⟨h5, _⟩ | ⟨g', c', h5, h6, h7, _⟩
        · injection h5 with h5; rw [hg] at h5; cases h5
        · injection h5 with h5; rw [hg] at h5; injection h5 with h5; injection h5 with h5; subst h5; exact ⟨h6, h7⟩)
      have hrl : rs.length ≤ 1099511627776 := by have := congrArg List.length HP1.out; rw [List.length_map] at this; omega
      go_loopw [43] (fun i wr => ∃ (m : Nat) (ps : List ExU), m ≤ rs.length ∧ i = .int .i64 m ∧ Hid (ps.length = rs.length) ∧ Hid (ps.map (·.1) = es) ∧ Hid (wr.ownsRow hx 65 7 (.slice A9 rs.length c9) rs.length (flatE ps)) ∧ Hid (∀ j q, ps[j]? = some q → (j < m → RdE wr Y4.heap.size wr.heap.size (d + 1) q.2 q.1.args) ∧ (m ≤ j → RdE w 0 w.heap.size d q.2 q.1.args)) ∧ Hid (Own wr w.heap.size 27 #[.string nm, .slice A5 cs.length c5, .slice A6 zs.length c6, .slice A7 qs.length c7, .slice A9 rs.length c9]) ∧ Hid (Own wr (w.heap.size + 1) 27 #[.string ⟨#[]⟩, .slice none 0 0, .slice none 0 0, .slice none 0 0, .slice none 0 0]) ∧ Hid (Keep (w.heap.size + 2) hx Y4 wr) ∧ Below w.heap.size w wr ∧ Y4.heap.size ≤ wr.heap.size) (fun i _ => rs.length - (intOf i).toNat)
      case atStart => exact ⟨0, rs, Nat.zero_le _, rfl, Lib.hid rfl, HP1, HR9, Lib.hid (fun j q hq => ⟨fun h => absurd h (Nat.not_lt_zero _), fun _ => HP2.out q (List.mem_of_getElem? hq)⟩), HO9, HZ9, Lib.hid (Keep.refl _ _ _), HB9.out, Nat.le_refl _⟩
      case round =>
        clear HO9 HZ9 HB9 HR9
        obtain ⟨m, ps, hm, rfl, HPL, HP1, HQ, HPE, HO, HZ, HKE, hbr, hmr⟩ := hrel
        have hbz := hbr.size
        by_cases hlt : m < rs.length
        · have hki : (m : Int) < rs.length := by omega
          have hki0 : (0 : Int) ≤ (m : Int) := by omega
          have hlp : m < ps.length := by have := HPL.out; omega
          have hq := List.getElem?_eq_getElem hlp
          have hel := (HPE.out m _ hq).2 (Nat.le_refl _)
          obtain ⟨g, hA9, hg1, hg2, hcc⟩ : ∃ (g : Nat), A9 = some (⟨g, 0, none⟩ : Addr) ∧ hx ≤ g ∧ g < Y4.heap.size ∧ ∀ j u, (flatE ps)[j]? = some u → wr.cell? ⟨g, j, none⟩ = some u := by
            rcases own_row HQ.out with ⟨h5, h6⟩ | ⟨g', c', h5, h6, h7, h8⟩
            · omega
            · injection h5 with h5 _ _
              obtain ⟨h9, h10⟩ := HG.out g' h5
              exact ⟨g', h5, h9, h10, fun j u hu => by have := h8 j u hu; rwa [addX] at this⟩
          have hfl := flatE_get ps m _ hq
          generalize ps[m] = q at *
          obtain ⟨⟨q0, q1, ⟨q2, q3, q4⟩, q5, q6⟩, uk⟩ := q
          dsimp only at hel
          obtain ⟨A8, c8, rfl, _⟩ := hel.slice
          have n0 := hcc _ _ (hfl 0 (by decide))
          have n1 := hcc _ _ (hfl 1 (by decide))
          have n2 := hcc _ _ (hfl 2 (by decide))
          have n3 := hcc _ _ (hfl 3 (by decide))
          have n4 := hcc _ _ (hfl 4 (by decide))
          have n5 := hcc _ _ (hfl 5 (by decide))
          have n6 := hcc _ _ (hfl 6 (by decide))
          rw [Nat.add_zero] at n0
          dsimp only at n0 n1 n2 n3 n4 n5 n6
          subst hA9
          have HNE := Lib.hid hq
          have HEL := Lib.hid hel
          have HFR := Lib.hid (fun (W : World) (h : W.ownsRow hx 65 7 (.slice (some ⟨g, 0, none⟩) rs.length c9) rs.length (flatE ps)) (j : Nat) => World.ownsRow.frozenAt h j)
          clear hcc hfl hq hel hlp
          have z4 := HO.out.cell 4
          have bV := bel_mk wr (.cells #[.int .i64 q0, .int .i64 q1, .int .i64 q2, .int .i64 q3, .string q4, .string q5, .slice A8 q6.length c8] 65)
          have HV := Lib.hid (Own.new wr 65 #[.int .i64 q0, .int .i64 q1, .int .i64 q2, .int .i64 q3, .string q4, .string q5, .slice A8 q6.length c8])
          have HBV := Lib.hid bV
          go_upto_region 13 with fail
          generalize hVV : wr.alloc (.cells #[.int .i64 q0, .int .i64 q1, .int .i64 q2, .int .i64 q3, .string q4, .string q5, .slice A8 q6.length c8] 65) = V at *
          clear bV hVV
          have HQV := Lib.hid (own_below2 HQ.out HBV.out)
          have HOV := Lib.hid (HO.out.below HBV.out HO.out.lt)
          have hgV : g < V.heap.size := by have := HBV.out.size; omega
          have HN := Lib.hid (show (V.drew.cell? ⟨g, m * 7, none⟩ = some (.int .i64 q0) ∧ V.drew.cell? ⟨g, m * 7 + 1, none⟩ = some (.int .i64 q1) ∧ V.drew.cell? ⟨g, m * 7 + 2, none⟩ = some (.int .i64 q2) ∧ V.drew.cell? ⟨g, m * 7 + 3, none⟩ = some (.int .i64 q3) ∧ V.drew.cell? ⟨g, m * 7 + 4, none⟩ = some (.string q4) ∧ V.drew.cell? ⟨g, m * 7 + 5, none⟩ = some (.string q5) ∧ V.drew.cell? ⟨g, m * 7 + 6, none⟩ = some (.slice A8 q6.length c8)) from
            have hgr : ∀ j, V.drew.cell? ⟨g, j, none⟩ = wr.cell? ⟨g, j, none⟩ := fun j => show V.cell? ⟨g, j, none⟩ = wr.cell? ⟨g, j, none⟩ from HBV.out.cell (p := ⟨g, j, none⟩) (by show g < wr.heap.size; omega)
            ⟨(hgr _).trans n0, (hgr _).trans n1, (hgr _).trans n2, (hgr _).trans n3, (hgr _).trans n4, (hgr _).trans n5, (hgr _).trans n6⟩)
          have hgD : ∀ j : Nat, (⟨g, j, none⟩ : Addr).block < V.drew.heap.size := fun _ => hgV
          have HFD := Lib.hid (show ∀ j, V.drew.frozen? ⟨g, j, none⟩ = false from fun j => HFR.out V HQV.out j)
          clear n0 n1 n2 n3 n4 n5 n6 z4
          have HS := Lib.hid (show ∀ w', Below V.drew.heap.size V.drew w' → (w'.cell? ⟨w.heap.size, 4, none⟩ = some (.slice (some ⟨g, 0, none⟩) rs.length c9) ∧ w'.cell? ⟨wr.heap.size, 0, none⟩ = some (.int .i64 q0) ∧ w'.cell? ⟨wr.heap.size, 1, none⟩ = some (.int .i64 q1) ∧ w'.cell? ⟨wr.heap.size, 2, none⟩ = some (.int .i64 q2) ∧ w'.cell? ⟨wr.heap.size, 3, none⟩ = some (.int .i64 q3) ∧ w'.cell? ⟨wr.heap.size, 4, none⟩ = some (.string q4) ∧ w'.cell? ⟨wr.heap.size, 5, none⟩ = some (.string q5) ∧ w'.cell? ⟨wr.heap.size, 6, none⟩ = some (.slice A8 q6.length c8)) from fun w' hb => have o := (show Own V.drew _ _ _ from HV.out).below hb HV.out.lt; ⟨((show Own V.drew _ _ _ from HOV.out).below hb HOV.out.lt).cell 4, o.cell 0, o.cell 1, o.cell 2, o.cell 3, o.cell 4, o.cell 5, o.cell 6⟩)
          have HS7 := Lib.hid (show ∀ (w' : World) (y0 y1 y2 y3 y4 y5 y6 : Value), (w'.cell? ⟨w.heap.size, 4, none⟩ = some (.slice (some ⟨g, 0, none⟩) rs.length c9) ∧ w'.cell? ⟨wr.heap.size, 0, none⟩ = some (.int .i64 q0) ∧ w'.cell? ⟨wr.heap.size, 1, none⟩ = some (.int .i64 q1) ∧ w'.cell? ⟨wr.heap.size, 2, none⟩ = some (.int .i64 q2) ∧ w'.cell? ⟨wr.heap.size, 3, none⟩ = some (.int .i64 q3) ∧ w'.cell? ⟨wr.heap.size, 4, none⟩ = some (.string q4) ∧ w'.cell? ⟨wr.heap.size, 5, none⟩ = some (.string q5) ∧ w'.cell? ⟨wr.heap.size, 6, none⟩ = some (.slice A8 q6.length c8)) → ((((((((w'.setCell ⟨g, m * 7, none⟩ y0).setCell ⟨g, m * 7 + 1, none⟩ y1).setCell ⟨g, m * 7 + 2, none⟩ y2).setCell ⟨g, m * 7 + 3, none⟩ y3).setCell ⟨g, m * 7 + 4, none⟩ y4).setCell ⟨g, m * 7 + 5, none⟩ y5).setCell ⟨g, m * 7 + 6, none⟩ y6).cell? ⟨w.heap.size, 4, none⟩ = some (.slice (some ⟨g, 0, none⟩) rs.length c9) ∧ (((((((w'.setCell ⟨g, m * 7, none⟩ y0).setCell ⟨g, m * 7 + 1, none⟩ y1).setCell ⟨g, m * 7 + 2, none⟩ y2).setCell ⟨g, m * 7 + 3, none⟩ y3).setCell ⟨g, m * 7 + 4, none⟩ y4).setCell ⟨g, m * 7 + 5, none⟩ y5).setCell ⟨g, m * 7 + 6, none⟩ y6).cell? ⟨wr.heap.size, 0, none⟩ = some (.int .i64 q0) ∧ (((((((w'.setCell ⟨g, m * 7, none⟩ y0).setCell ⟨g, m * 7 + 1, none⟩ y1).setCell ⟨g, m * 7 + 2, none⟩ y2).setCell ⟨g, m * 7 + 3, none⟩ y3).setCell ⟨g, m * 7 + 4, none⟩ y4).setCell ⟨g, m * 7 + 5, none⟩ y5).setCell ⟨g, m * 7 + 6, none⟩ y6).cell? ⟨wr.heap.size, 1, none⟩ = some (.int .i64 q1) ∧ (((((((w'.setCell ⟨g, m * 7, none⟩ y0).setCell ⟨g, m * 7 + 1, none⟩ y1).setCell ⟨g, m * 7 + 2, none⟩ y2).setCell ⟨g, m * 7 + 3, none⟩ y3).setCell ⟨g, m * 7 + 4, none⟩ y4).setCell ⟨g, m * 7 + 5, none⟩ y5).setCell ⟨g, m * 7 + 6, none⟩ y6).cell? ⟨wr.heap.size, 2, none⟩ = some (.int .i64 q2) ∧ (((((((w'.setCell ⟨g, m * 7, none⟩ y0).setCell ⟨g, m * 7 + 1, none⟩ y1).setCell ⟨g, m * 7 + 2, none⟩ y2).setCell ⟨g, m * 7 + 3, none⟩ y3).setCell ⟨g, m * 7 + 4, none⟩ y4).setCell ⟨g, m * 7 + 5, none⟩ y5).setCell ⟨g, m * 7 + 6, none⟩ y6).cell? ⟨wr.heap.size, 3, none⟩ = some (.int .i64 q3) ∧ (((((((w'.setCell ⟨g, m * 7, none⟩ y0).setCell ⟨g, m * 7 + 1, none⟩ y1).setCell ⟨g, m * 7 + 2, none⟩ y2).setCell ⟨g, m * 7 + 3, none⟩ y3).setCell ⟨g, m * 7 + 4, none⟩ y4).setCell ⟨g, m * 7 + 5, none⟩ y5).setCell ⟨g, m * 7 + 6, none⟩ y6).cell? ⟨wr.heap.size, 4, none⟩ = some (.string q4) ∧ (((((((w'.setCell ⟨g, m * 7, none⟩ y0).setCell ⟨g, m * 7 + 1, none⟩ y1).setCell ⟨g, m * 7 + 2, none⟩ y2).setCell ⟨g, m * 7 + 3, none⟩ y3).setCell ⟨g, m * 7 + 4, none⟩ y4).setCell ⟨g, m * 7 + 5, none⟩ y5).setCell ⟨g, m * 7 + 6, none⟩ y6).cell? ⟨wr.heap.size, 5, none⟩ = some (.string q5) ∧ (((((((w'.setCell ⟨g, m * 7, none⟩ y0).setCell ⟨g, m * 7 + 1, none⟩ y1).setCell ⟨g, m * 7 + 2, none⟩ y2).setCell ⟨g, m * 7 + 3, none⟩ y3).setCell ⟨g, m * 7 + 4, none⟩ y4).setCell ⟨g, m * 7 + 5, none⟩ y5).setCell ⟨g, m * 7 + 6, none⟩ y6).cell? ⟨wr.heap.size, 6, none⟩ = some (.slice A8 q6.length c8)) from fun w' y0 y1 y2 y3 y4 y5 y6 h => by
            have f : ∀ (W : World) (j : Nat) (y : Value) (p : Addr), g ≠ p.block → (W.setCell ⟨g, j, none⟩ y).cell? p = W.cell? p := fun W j y p hp => World.cell?_setCell_far W ⟨g, j, none⟩ p y hp
            have e1 : g ≠ w.heap.size := by omega
            have e2 : g ≠ wr.heap.size := by omega
            obtain ⟨h0, h1, h2, h3, h4, h5, h6, h7⟩ := h
            refine ⟨?_, ?_, ?_, ?_, ?_, ?_, ?_, ?_⟩
            · rw [f _ _ _ _ e1, f _ _ _ _ e1, f _ _ _ _ e1, f _ _ _ _ e1, f _ _ _ _ e1, f _ _ _ _ e1, f _ _ _ _ e1]; exact h0
            all_goals
              rw [f _ _ _ _ e2, f _ _ _ _ e2, f _ _ _ _ e2, f _ _ _ _ e2, f _ _ _ _ e2, f _ _ _ _ e2, f _ _ _ _ e2]
              assumption)
          have HCI := Lib.hid (show Calls Try.prog 31 #[.agg #[.int .i64 q0, .int .i64 q1, .int .i64 q2, .int .i64 q3, .string q4, .string q5, .slice A8 q6.length c8], .slice none 0 0] V.drew (RetX V.drew (d + 1) ⟨q0, q1, (q2, q3, q4), q5, q6⟩) from by
            have h2 := pSubst_any (.slice none 0 0) [] 1 d ⟨q0, q1, (q2, q3, q4), q5, q6⟩ (.slice A8 q6.length c8) V.drew 0 0 (HEL.out.step (hbr.trans ((HBV.out.drew).mono hbz)) (Nat.le_refl _)) ⟨none, 0, rfl, by simp, by simp⟩
            rw [sbX_nil0] at h2
            unfold exV at h2
            exact h2)
          generalize hrr : (⟨q0, q1, (q2, q3, q4), q5, q6⟩ : Ex) = r at *
          have HRR := Lib.hid hrr
          clear hrr
          obtain ⟨r0, r1, ⟨r2, r3, r4⟩, r5, r6⟩ := r
          have HVD := Lib.hid ((Below.refl V.heap.size V).drew)
          have c4 := HOV.out.cell 4
          have y0 := HV.out.cell 0
          have y1 := HV.out.cell 1
          have y2 := HV.out.cell 2
          have y3 := HV.out.cell 3
          have y4 := HV.out.cell 4
          have y5 := HV.out.cell 5
          have y6 := HV.out.cell 6
          have HGD := Lib.hid hgD
          clear hgD
          clear c4 y0 y1 y2 y3 y4 y5 y6
          refine wp_region_held_drew (S := fun w' => (w'.cell? ⟨w.heap.size, 4, none⟩ = some (.slice (some ⟨g, 0, none⟩) rs.length c9) ∧ w'.cell? ⟨wr.heap.size, 0, none⟩ = some (.int .i64 q0) ∧ w'.cell? ⟨wr.heap.size, 1, none⟩ = some (.int .i64 q1) ∧ w'.cell? ⟨wr.heap.size, 2, none⟩ = some (.int .i64 q2) ∧ w'.cell? ⟨wr.heap.size, 3, none⟩ = some (.int .i64 q3) ∧ w'.cell? ⟨wr.heap.size, 4, none⟩ = some (.string q4) ∧ w'.cell? ⟨wr.heap.size, 5, none⟩ = some (.string q5) ∧ w'.cell? ⟨wr.heap.size, 6, none⟩ = some (.slice A8 q6.length c8))) (by kernel_rfl) (HS.out _ (Below.refl _ _)) (fun hHeld => ?_)
          (refine takeD (i := 0) (d := 48) (oi := _) (v := ?_) rfl rfl (by kernel_rfl) (by kernel_rfl) (by kernel_rfl) (fun _ _ _ h => h) (Or.inl ⟨by rfl, ?_⟩) (by assumption) ?_; rotate_left; (focus ((intro w hSw; (try dsimp only at hSw); go_simp) <;> (with_reducible rfl))); (try simp only [Act.put, List.setIfInBounds_toArray, List.set_cons_zero, List.set_cons_succ]))
          (refine takeD (i := 1) (d := 49) (oi := _) (v := ?_) rfl rfl (by kernel_rfl) (by kernel_rfl) (by kernel_rfl) (fun _ _ _ h => h) (Or.inl ⟨by rfl, ?_⟩) (by assumption) ?_; rotate_left; (focus ((intro w hSw; (try dsimp only at hSw); go_simp) <;> (with_reducible rfl))); (try simp only [Act.put, List.setIfInBounds_toArray, List.set_cons_zero, List.set_cons_succ]))
          (refine takeD (i := 2) (d := 50) (oi := _) (v := ?_) rfl rfl (by kernel_rfl) (by kernel_rfl) (by kernel_rfl) (fun _ _ _ h => h) (Or.inl ⟨by rfl, ?_⟩) (by assumption) ?_; rotate_left; (focus ((intro w hSw; (try dsimp only at hSw); go_simp) <;> (with_reducible rfl))); (try simp only [Act.put, List.setIfInBounds_toArray, List.set_cons_zero, List.set_cons_succ]))
          (refine takeD (i := 3) (d := 51) (oi := _) (v := ?_) rfl rfl (by kernel_rfl) (by kernel_rfl) (by kernel_rfl) (fun _ _ _ h => h) (Or.inl ⟨by rfl, ?_⟩) (by assumption) ?_; rotate_left; (focus ((intro w hSw; (try dsimp only at hSw); go_simp) <;> (with_reducible rfl))); (try simp only [Act.put, List.setIfInBounds_toArray, List.set_cons_zero, List.set_cons_succ]))
          refine wpAnyH_ready (rs := [4]) (by kernel_rfl) (by simp) ?_
          refine AllReadyH.cons (o := _) rfl (fun K hK => ?_) AllReadyH.nil
          go_simp
          (go_at_call 31; with_reducible refine HCI.out.mono ?_; intro e5 w5 h5; unfold RetX at h5; obtain ⟨v5, h6, k5, hb⟩ := h5; subst h6; obtain ⟨AB, cB, h7, _⟩ := k5.slice; subst h7; unfold exV; dsimp only; obtain ⟨t0, t1, t2, t3, t4, t5, t6⟩ := HN.out; have hg5 : ∀ j, w5.cell? ⟨g, j, none⟩ = V.drew.cell? ⟨g, j, none⟩ := fun j => hb.cell (HGD.out j); have o0 := (hg5 _).trans t0; have o1 := (hg5 _).trans t1; have o2 := (hg5 _).trans t2; have o3 := (hg5 _).trans t3; have o4 := (hg5 _).trans t4; have o5 := (hg5 _).trans t5; have o6 := (hg5 _).trans t6; have hf5 : ∀ j, w5.frozen? ⟨g, j, none⟩ = false := fun j => (hb.frozen (HGD.out j)).trans (HFD.out j); have j0 := hf5 (m * 7); have j1 := hf5 (m * 7 + 1); have j2 := hf5 (m * 7 + 2); have j3 := hf5 (m * 7 + 3); have j4 := hf5 (m * 7 + 4); have j5 := hf5 (m * 7 + 5); have j6 := hf5 (m * 7 + 6); clear hg5 hf5 t0 t1 t2 t3 t4 t5 t6)
          refine hK.out _ _ (by (try dsimp only); exact HS.out _ hb) (fun hHeld => ?_)
          clear hK
          (try simp only [Act.put, List.setIfInBounds_toArray, List.set_cons_zero, List.set_cons_succ])
          (refine takeD (i := 5) (d := 53) (oi := _) (v := ?_) rfl rfl (by kernel_rfl) (by kernel_rfl) (by kernel_rfl) (fun _ _ _ h => h) (Or.inl ⟨by rfl, ?_⟩) (by assumption) ?_; rotate_left; (focus ((intro w hSw; (try dsimp only at hSw); go_simp) <;> (with_reducible rfl))); (try simp only [Act.put, List.setIfInBounds_toArray, List.set_cons_zero, List.set_cons_succ]))
          refine wpAnyH_ready (rs := [6]) (by kernel_rfl) (by simp) ?_
          refine AllReadyH.cons (o := _) rfl (fun K hK => ?_) AllReadyH.nil
          go_simp
          skip
          refine hK.out _ _ (by (try dsimp only); exact HS7.out _ _ _ _ _ _ _ _ hHeld) (fun hHeld => ?_)
          clear hK
          (try simp only [Act.put, List.setIfInBounds_toArray, List.set_cons_zero, List.set_cons_succ])
          refine wpAnyH_done (by kernel_rfl) ?_ _
          clear hHeld HS HS7
          have hbV5 : Below V.heap.size V w5 := HVD.out.trans (hb.mono HVD.out.size)
          have hVd := HVD.out.size
          have hw5 : Below wr.heap.size wr w5 := HBV.out.trans (hbV5.mono HBV.out.size)
          have hs5 := hw5.size
          have hVr := HBV.out.size
          obtain ⟨WF, hWF⟩ : ∃ WF, WF = (((((((w5.setCell ⟨g, m * 7, none⟩ (.int .i64 r0)).setCell ⟨g, m * 7 + 1, none⟩ (.int .i64 r1)).setCell ⟨g, m * 7 + 2, none⟩ (.int .i64 r2)).setCell ⟨g, m * 7 + 3, none⟩ (.int .i64 r3)).setCell ⟨g, m * 7 + 4, none⟩ (.string r4)).setCell ⟨g, m * 7 + 5, none⟩ (.string r5)).setCell ⟨g, m * 7 + 6, none⟩ (.slice AB r6.length cB)) := ⟨_, rfl⟩
          have hsz : WF.heap.size = w5.heap.size := by rw [hWF]; simp only [World.size_setCell]
          have HQ6 := Lib.hid (show WF.ownsRow hx 65 7 (.slice (some ⟨g, 0, none⟩) rs.length c9) rs.length (flatE (ps.set m ((⟨r0, r1, (r2, r3, r4), r5, r6⟩ : Ex), Value.slice AB r6.length cB))) from by
            have HQ5 := (World.ownsRow.stored (World.ownsRow.stored (World.ownsRow.stored (World.ownsRow.stored (World.ownsRow.stored (World.ownsRow.stored (World.ownsRow.stored (own_below2 HQV.out hbV5) (m * 7) (.int .i64 r0)).1 (m * 7 + 1) (.int .i64 r1)).1 (m * 7 + 2) (.int .i64 r2)).1 (m * 7 + 3) (.int .i64 r3)).1 (m * 7 + 4) (.string r4)).1 (m * 7 + 5) (.string r5)).1 (m * 7 + 6) (.slice AB r6.length cB)).1
            rw [← hWF] at HQ5
            rw [set_flat ps m _ ((⟨r0, r1, (r2, r3, r4), r5, r6⟩ : Ex), Value.slice AB r6.length cB) HNE.out] at HQ5
            exact HQ5)
          have HP6 := Lib.hid (show (ps.set m ((⟨r0, r1, (r2, r3, r4), r5, r6⟩ : Ex), Value.slice AB r6.length cB)).map (·.1) = es from by
            rw [List.map_set, ← HP1.out]
            exact set_same _ _ _ (by rw [List.getElem?_map, HNE.out]; rfl))
          have HE6 := Lib.hid (show ∀ j q, (ps.set m ((⟨r0, r1, (r2, r3, r4), r5, r6⟩ : Ex), Value.slice AB r6.length cB))[j]? = some q → (j < m + 1 → RdE WF Y4.heap.size WF.heap.size (d + 1) q.2 q.1.args) ∧ (m + 1 ≤ j → RdE w 0 w.heap.size d q.2 q.1.args) from fun j q hq => by
            rw [hsz, hWF]
            rw [List.getElem?_set] at hq
            by_cases hjk : m = j
            · subst hjk
              rw [if_pos rfl] at hq
              split at hq
              · injection hq with hq
                subst hq
                have k6 := k5.more (Nat.le_refl _) (show Y4.heap.size ≤ V.heap.size by omega)
                exact ⟨fun _ => (((((((k6.far (p := ⟨g, m * 7, none⟩) (v := .int .i64 r0) (by show g < _; omega)).far (p := ⟨g, m * 7 + 1, none⟩) (v := .int .i64 r1) (by show g < _; omega)).far (p := ⟨g, m * 7 + 2, none⟩) (v := .int .i64 r2) (by show g < _; omega)).far (p := ⟨g, m * 7 + 3, none⟩) (v := .int .i64 r3) (by show g < _; omega)).far (p := ⟨g, m * 7 + 4, none⟩) (v := .string r4) (by show g < _; omega)).far (p := ⟨g, m * 7 + 5, none⟩) (v := .string r5) (by show g < _; omega)).far (p := ⟨g, m * 7 + 6, none⟩) (v := .slice AB r6.length cB) (by show g < _; omega)), fun h => by omega⟩
              · cases hq
            · rw [if_neg hjk] at hq
              obtain ⟨h1, h2⟩ := HPE.out j q hq
              refine ⟨fun h => ?_, fun h => h2 (by omega)⟩
              have k6 := (h1 (by omega)).step hw5 (Nat.le_refl _)
              exact (((((((k6.far (p := ⟨g, m * 7, none⟩) (v := .int .i64 r0) (by show g < _; omega)).far (p := ⟨g, m * 7 + 1, none⟩) (v := .int .i64 r1) (by show g < _; omega)).far (p := ⟨g, m * 7 + 2, none⟩) (v := .int .i64 r2) (by show g < _; omega)).far (p := ⟨g, m * 7 + 3, none⟩) (v := .int .i64 r3) (by show g < _; omega)).far (p := ⟨g, m * 7 + 4, none⟩) (v := .string r4) (by show g < _; omega)).far (p := ⟨g, m * 7 + 5, none⟩) (v := .string r5) (by show g < _; omega)).far (p := ⟨g, m * 7 + 6, none⟩) (v := .slice AB r6.length cB) (by show g < _; omega)))
          have HO6 := Lib.hid (show Own WF w.heap.size 27 #[.string nm, .slice A5 cs.length c5, .slice A6 zs.length c6, .slice A7 qs.length c7, .slice (some ⟨g, 0, none⟩) rs.length c9] from by rw [hWF]; exact ((((((((HO.out.below hw5 HO.out.lt).far (p := ⟨g, m * 7, none⟩) (by show w.heap.size ≠ g; omega) (.int .i64 r0)).far (p := ⟨g, m * 7 + 1, none⟩) (by show w.heap.size ≠ g; omega) (.int .i64 r1)).far (p := ⟨g, m * 7 + 2, none⟩) (by show w.heap.size ≠ g; omega) (.int .i64 r2)).far (p := ⟨g, m * 7 + 3, none⟩) (by show w.heap.size ≠ g; omega) (.int .i64 r3)).far (p := ⟨g, m * 7 + 4, none⟩) (by show w.heap.size ≠ g; omega) (.string r4)).far (p := ⟨g, m * 7 + 5, none⟩) (by show w.heap.size ≠ g; omega) (.string r5)).far (p := ⟨g, m * 7 + 6, none⟩) (by show w.heap.size ≠ g; omega) (.slice AB r6.length cB)))
          have HZ6 := Lib.hid (show Own WF (w.heap.size + 1) 27 #[.string ⟨#[]⟩, .slice none 0 0, .slice none 0 0, .slice none 0 0, .slice none 0 0] from by rw [hWF]; exact ((((((((HZ.out.below hw5 HZ.out.lt).far (p := ⟨g, m * 7, none⟩) (by show w.heap.size + 1 ≠ g; omega) (.int .i64 r0)).far (p := ⟨g, m * 7 + 1, none⟩) (by show w.heap.size + 1 ≠ g; omega) (.int .i64 r1)).far (p := ⟨g, m * 7 + 2, none⟩) (by show w.heap.size + 1 ≠ g; omega) (.int .i64 r2)).far (p := ⟨g, m * 7 + 3, none⟩) (by show w.heap.size + 1 ≠ g; omega) (.int .i64 r3)).far (p := ⟨g, m * 7 + 4, none⟩) (by show w.heap.size + 1 ≠ g; omega) (.string r4)).far (p := ⟨g, m * 7 + 5, none⟩) (by show w.heap.size + 1 ≠ g; omega) (.string r5)).far (p := ⟨g, m * 7 + 6, none⟩) (by show w.heap.size + 1 ≠ g; omega) (.slice AB r6.length cB)))
          have HK6 := Lib.hid (show Keep (w.heap.size + 2) hx Y4 WF from by rw [hWF]; exact ((((((((HKE.out.trans (Keep.of hw5 (show hx ≤ wr.heap.size by omega))).trans (Keep.set _ (p := ⟨g, m * 7, none⟩) (.inr hg1) (.int .i64 r0))).trans (Keep.set _ (p := ⟨g, m * 7 + 1, none⟩) (.inr hg1) (.int .i64 r1))).trans (Keep.set _ (p := ⟨g, m * 7 + 2, none⟩) (.inr hg1) (.int .i64 r2))).trans (Keep.set _ (p := ⟨g, m * 7 + 3, none⟩) (.inr hg1) (.int .i64 r3))).trans (Keep.set _ (p := ⟨g, m * 7 + 4, none⟩) (.inr hg1) (.string r4))).trans (Keep.set _ (p := ⟨g, m * 7 + 5, none⟩) (.inr hg1) (.string r5))).trans (Keep.set _ (p := ⟨g, m * 7 + 6, none⟩) (.inr hg1) (.slice AB r6.length cB))))
          have HB6 := Lib.hid (show Below w.heap.size w WF from by rw [hWF]; exact ((((((((hbr.trans (hw5.mono hbz)).setCell (p := ⟨g, m * 7, none⟩) (by show w.heap.size ≤ g; omega) (.int .i64 r0)).setCell (p := ⟨g, m * 7 + 1, none⟩) (by show w.heap.size ≤ g; omega) (.int .i64 r1)).setCell (p := ⟨g, m * 7 + 2, none⟩) (by show w.heap.size ≤ g; omega) (.int .i64 r2)).setCell (p := ⟨g, m * 7 + 3, none⟩) (by show w.heap.size ≤ g; omega) (.int .i64 r3)).setCell (p := ⟨g, m * 7 + 4, none⟩) (by show w.heap.size ≤ g; omega) (.string r4)).setCell (p := ⟨g, m * 7 + 5, none⟩) (by show w.heap.size ≤ g; omega) (.string r5)).setCell (p := ⟨g, m * 7 + 6, none⟩) (by show w.heap.size ≤ g; omega) (.slice AB r6.length cB)))
          have HM6 := Lib.hid (show Y4.heap.size ≤ WF.heap.size by rw [hsz]; omega)
          have HL6 := Lib.hid (show (ps.set m ((⟨r0, r1, (r2, r3, r4), r5, r6⟩ : Ex), Value.slice AB r6.length cB)).length = rs.length by rw [List.length_set]; exact HPL.out)
          clear hbV5 hw5 hs5 hVr hVd hb k5 HFD HGD HVD HQV HOV HV HBV HN HCI HFR HEL HNE HPE HQ HO HZ HKE HP1 hg2 hsz HRR
          rw [← hWF]
          clear hWF o0 o1 o2 o3 o4 o5 o6 j0 j1 j2 j3 j4 j5 j6
          go_wp2
          go_roundw
          case rel => exact ⟨m + 1, _, by omega, by go_num, HL6, HP6, HQ6, HE6, HO6, HZ6, HK6, HB6.out, HM6.out⟩
          case measure => simp [intOf]; omega
        · have hki : ¬ (m : Int) < rs.length := by omega
          have hkq : m = rs.length := by omega
          have HEX := Lib.hid (show RdE wr (w.heap.size + 2) wr.heap.size (d + 2) (.slice A9 rs.length c9) es from by
            have hown := HQ.out
            rw [← HPL.out] at hown ⊢
            have h := rdE_ownM (d := d + 1) hown (show w.heap.size + 2 ≤ hx by omega) (by have := HPL.out; omega) (fun q hq => by
              obtain ⟨j, hj1, rfl⟩ := List.getElem_of_mem hq
              exact ((HPE.out j _ (List.getElem?_eq_getElem hj1)).1 (by have := HPL.out; omega)).more (Nat.le_refl _) (by omega))
            rw [HP1.out] at h
            exact h)
          have hxr : hx ≤ wr.heap.size := by omega
          have HKY := Lib.hid ((HKX.out.keep HKE.out).more hxr)
          have HIY := Lib.hid ((HIX.out.keep HKE.out).more hxr)
          have HFY := Lib.hid ((HFX.out.keep HKE.out).more hxr)
          have HBY := Lib.hid hbr
          clear HPE HQ HPL HP1 HKE HKX HIX HFX hkq HG hbr hbz hmr
          have z9 := HZ.out
          have b9 := HBY.out
          have b0 := HO.out.cell 0
          have b1 := HO.out.cell 1
          have b2 := HO.out.cell 2
          have b3 := HO.out.cell 3
          have b4 := HO.out.cell 4
          have y0 := z9.cell 0
          have m0 := z9.free 0
          have y1 := z9.cell 1
          have m1 := z9.free 1
          have y2 := z9.cell 2
          have m2 := z9.free 2
          have y3 := z9.cell 3
          have m3 := z9.free 3
          have y4 := z9.cell 4
          have m4 := z9.free 4
          have HXX := Lib.hid (((((z9.store 0 (.string nm)).store 1 (.slice A5 cs.length c5)).store 2 (.slice A6 zs.length c6)).store 3 (.slice A7 qs.length c7)).store 4 (.slice A9 rs.length c9))
          have HFF := Lib.hid (((((b9.setCell (p := ⟨w.heap.size + 1, 0, none⟩) (by show w.heap.size ≤ w.heap.size + 1; omega) (.string nm)).setCell (p := ⟨w.heap.size + 1, 1, none⟩) (by show w.heap.size ≤ w.heap.size + 1; omega) (.slice A5 cs.length c5)).setCell (p := ⟨w.heap.size + 1, 2, none⟩) (by show w.heap.size ≤ w.heap.size + 1; omega) (.slice A6 zs.length c6)).setCell (p := ⟨w.heap.size + 1, 3, none⟩) (by show w.heap.size ≤ w.heap.size + 1; omega) (.slice A7 qs.length c7)).setCell (p := ⟨w.heap.size + 1, 4, none⟩) (by show w.heap.size ≤ w.heap.size + 1; omega) (.slice A9 rs.length c9))
          have HKK := Lib.hid ((((((Keep.refl (w.heap.size + 2) wr.heap.size wr).trans (Keep.set _ (p := ⟨w.heap.size + 1, 0, none⟩) (.inl (by show w.heap.size + 1 < _; omega)) (.string nm))).trans (Keep.set _ (p := ⟨w.heap.size + 1, 1, none⟩) (.inl (by show w.heap.size + 1 < _; omega)) (.slice A5 cs.length c5))).trans (Keep.set _ (p := ⟨w.heap.size + 1, 2, none⟩) (.inl (by show w.heap.size + 1 < _; omega)) (.slice A6 zs.length c6))).trans (Keep.set _ (p := ⟨w.heap.size + 1, 3, none⟩) (.inl (by show w.heap.size + 1 < _; omega)) (.slice A7 qs.length c7))).trans (Keep.set _ (p := ⟨w.heap.size + 1, 4, none⟩) (.inl (by show w.heap.size + 1 < _; omega)) (.slice A9 rs.length c9)))
          clear z9 b9 HO HZ HBY
          go_wp2
          (try simp only [Exit.inBlock, Exit.then]); refine bodyPost_ret_by (results_cell_row1 (by rfl) _ _ (w.heap.size + 1) _ (by rfl) (load_tabF HXX.out)) ?_ ?_; (focus rfl)
          refine ⟨_, _, _, _, rfl, ?_, ?_, ?_, ?_, HFF.out⟩
          all_goals simp only [World.size_setCell]
          · exact (HKY.out.keep HKK.out).low (Nat.zero_le _)
          · exact (HIY.out.keep HKK.out).low (Nat.zero_le _)
          · exact (HFY.out.keep HKK.out).low (Nat.zero_le _)
          · exact (RdE.keep HKK.out HEX.out).more (Nat.le_refl _) (Nat.zero_le _)
end Go.Proofs.Yteihjneeiojgaaa
