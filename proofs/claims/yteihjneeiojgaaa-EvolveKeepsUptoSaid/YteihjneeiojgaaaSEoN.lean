import Derived.Test.YteihjneeiojgaaaSEoM
import Derived.Test.YteihjneeiojgaaaMV
import Derived.WalkKit
import Derived.WalkSpells
import Derived.WalkLawsBesides
import Derived.Deep.QuietTactic
import Derived.BigQuiet
import Derived.Handy
import Derived.Lib.Hide
/-
  Apply, Index and Lossless of evolve. Conditions: a definition that is valid is small. (Written by mkEoN.py.)
-/
namespace Go.Proofs.Yteihjneeiojgaaa
set_option maxRecDepth 100000
set_option linter.unusedVariables false
set_option linter.unusedSimpArgs false
open Go.RowKit

theorem colE_up : ∀ {d : Nat} {e : Ex}, Ex.Fin d e → colE (d + 1) e = colE d e
  | 0, _, h => h.elim
  | d + 1, e, h => by
    show colH e ++ e.args.flatMap (colE (d + 1)) = colH e ++ e.args.flatMap (colE d)
    have : ∀ l : List Ex, (∀ a ∈ l, Ex.Fin d a) → l.flatMap (colE (d + 1)) = l.flatMap (colE d) := by
      intro l
      induction l with
      | nil => intro _; rfl
      | cons a t ih => intro hl; rw [List.flatMap_cons, List.flatMap_cons, colE_up (hl a List.mem_cons_self), ih fun x hx => hl x (List.mem_cons_of_mem _ hx)]
    rw [this _ h]
theorem usdL_up {zs : List Int} {fs : List Fk} {d : Nat} {es : List Ex} (hF : ∀ e ∈ es, Ex.Fin d e) : usdL zs fs (d + 1) es = usdL zs fs d es := by
  unfold usdL
  congr 1
  induction es with
  | nil => rfl
  | cons a t ih => rw [List.flatMap_cons, List.flatMap_cons, colE_up (hF a List.mem_cons_self), ih fun x hx => hF x (List.mem_cons_of_mem _ hx)]
theorem chgE_up {cs : List Cl} {zs : List Int} {fs : List Fk} {d : Nat} {es : List Ex} {h : Chg} (hF : ∀ e ∈ es, Ex.Fin d e) : chgE cs zs fs (d + 1) es h = chgE cs zs fs d es h := by
  unfold chgE
  rw [usdL_up hF]
theorem GdT.up {cs : List Cl} {zs : List Int} {fs : List Fk} {d : Nat} {es : List Ex} (hF : ∀ e ∈ es, Ex.Fin d e) (h : GdT ⟨cs, zs, fs, d, es⟩) : GdT ⟨cs, zs, fs, d + 1, es⟩ :=
  ⟨⟨h.s.hn, h.s.lc, h.s.lk, h.s.lf, h.s.lf1, h.s.le, fun e he => by rw [colE_up (hF e he)]; exact h.s.le1 e he, by show ∀ z ∈ usdL zs fs (d + 1) es, _; rw [usdL_up hF]; exact h.s.lw⟩, h.c, h.z, h.f⟩
theorem rdH_one {w : World} {g : Nat} (h : Chg) (o : Own w g 40 (chA h.k h.nm h.to h.c h.p)) : RdH w 0 w.heap.size (.slice (some ⟨g, 0, none⟩) 1 1) [h] := by
  refine ⟨_, _, rfl, by simp, fun k r hk => ⟨_, rfl, Nat.zero_le _, o.lt, ?_⟩⟩
  have hk2 : k = 0 := by have := (List.getElem?_eq_some_iff.1 hk).1; simp at this; omega
  subst hk2
  obtain rfl := Option.some.inj hk
  rw [Nat.zero_mul, addX]
  exact ⟨o.cell 0, o.cell 1, o.cell 2, o.cell 3, o.cell 4, o.cell 5, o.cell 6, o.cell 7, o.cell 8⟩
/-- What Apply answers. -/
def RetApp (w : World) (nm : ByteArray) (T : Tb) (h : Chg) (e : Ending) (w' : World) : Prop :=
  ((∃ x, evoE nm.data.toList T.cs T.zs T.fs T.d T.es h = x ∧ x ≠ 0 ∧ e = .returned (.tuple #[zTab, .int .i64 x])) ∨
   (evoE nm.data.toList T.cs T.zs T.fs T.d T.es h = 0 ∧ ∃ (v1 v2 v3 v4 : Value) (qs : List FkU) (ps : List ExU), e = .returned (.tuple #[.agg #[.string nm, v1, v2, v3, v4], .int .i64 0]) ∧
     OwT w.heap.size (fun b => b < w.heap.size) w' v1 v2 v3 v4 (stepT ⟨T.cs, T.zs, T.fs, T.d + 1, T.es⟩ h).cs (stepT ⟨T.cs, T.zs, T.fs, T.d + 1, T.es⟩ h).zs qs (stepT ⟨T.cs, T.zs, T.fs, T.d + 1, T.es⟩ h).d ps ∧
     qs.map (·.1) = (stepT ⟨T.cs, T.zs, T.fs, T.d + 1, T.es⟩ h).fs ∧ ps.map (·.1) = (stepT ⟨T.cs, T.zs, T.fs, T.d + 1, T.es⟩ h).es)) ∧ Below w.heap.size w w'
theorem RetRun.one {w w' : World} {nm : ByteArray} {T : Tb} {h : Chg} {e : Ending} (hF : ∀ e ∈ T.es, Ex.Fin T.d e) (hr : RetRun w nm T [h] e w') :
    ((∃ x, evoE nm.data.toList T.cs T.zs T.fs T.d T.es h = x ∧ x ≠ 0 ∧ e = .returned (.tuple #[zTab, .int .i64 0, .int .i64 x])) ∨
     (evoE nm.data.toList T.cs T.zs T.fs T.d T.es h = 0 ∧ ∃ (v1 v2 v3 v4 : Value) (qs : List FkU) (ps : List ExU), e = .returned (.tuple #[.agg #[.string nm, v1, v2, v3, v4], .int .i64 1, .int .i64 0]) ∧
     OwT w.heap.size (fun b => b < w.heap.size) w' v1 v2 v3 v4 (stepT ⟨T.cs, T.zs, T.fs, T.d + 1, T.es⟩ h).cs (stepT ⟨T.cs, T.zs, T.fs, T.d + 1, T.es⟩ h).zs qs (stepT ⟨T.cs, T.zs, T.fs, T.d + 1, T.es⟩ h).d ps ∧
     qs.map (·.1) = (stepT ⟨T.cs, T.zs, T.fs, T.d + 1, T.es⟩ h).fs ∧ ps.map (·.1) = (stepT ⟨T.cs, T.zs, T.fs, T.d + 1, T.es⟩ h).es)) ∧ Below w.heap.size w w' := by
  obtain ⟨cs, zs, fs, d, es⟩ := T
  obtain ⟨hr, hb⟩ := hr
  dsimp only at *
  refine ⟨?_, hb⟩
  have hup : errT ⟨cs, zs, fs, d + 1, es⟩ h = chgE cs zs fs d es h := chgE_up hF
  rcases hr with ⟨x, hx, hn, he⟩ | ⟨h0, k, S, h', hst, hk, hne, he⟩ | ⟨h0, S, v1, v2, v3, v4, hst, he, _, qs, ps, ho, hq, hp⟩
  · exact .inl ⟨x, by unfold evoE; rw [← hx, if_pos hn], hn, he⟩
  · have hk0 : k = 0 := by have := (List.getElem?_eq_some_iff.1 hk).1; simp at this; omega
    subst hk0
    simp at hk
    subst hk
    rw [stAt_zero] at hst
    injection hst with hst
    subst hst
    rw [hup] at hne he
    exact .inl ⟨_, by unfold evoE; rw [if_neg (fun h => h h0)], hne, he⟩
  · have hst1 : (if errT ⟨cs, zs, fs, d + 1, es⟩ h = 0 then stAt (stepT ⟨cs, zs, fs, d + 1, es⟩ h) [] 0 else none) = some S := hst
    by_cases hz : errT ⟨cs, zs, fs, d + 1, es⟩ h = 0
    · rw [if_pos hz, stAt_zero] at hst1
      injection hst1 with hst1
      subst hst1
      rw [hup] at hz
      exact .inr ⟨by unfold evoE; rw [if_neg (fun h => h h0)]; exact hz, v1, v2, v3, v4, qs, ps, he, ho, hq, hp⟩
    · rw [if_neg hz] at hst1; cases hst1
theorem RetApp.bad {w w' : World} {nm : ByteArray} {T : Tb} {h : Chg} {x : Int} (hx : evoE nm.data.toList T.cs T.zs T.fs T.d T.es h = x) (hn : x ≠ 0) (hb : Below w.heap.size w w') : RetApp w nm T h (.returned (.tuple #[zTab, .int .i64 x])) w' := ⟨.inl ⟨x, hx, hn, rfl⟩, hb⟩
theorem RetApp.fin {w w' : World} {nm : ByteArray} {T : Tb} {h : Chg} {v1 v2 v3 v4 : Value} {qs : List FkU} {ps : List ExU} (hx : evoE nm.data.toList T.cs T.zs T.fs T.d T.es h = 0)
    (ho : OwT w.heap.size (fun b => b < w.heap.size) w' v1 v2 v3 v4 (stepT ⟨T.cs, T.zs, T.fs, T.d + 1, T.es⟩ h).cs (stepT ⟨T.cs, T.zs, T.fs, T.d + 1, T.es⟩ h).zs qs (stepT ⟨T.cs, T.zs, T.fs, T.d + 1, T.es⟩ h).d ps)
    (hq : qs.map (·.1) = (stepT ⟨T.cs, T.zs, T.fs, T.d + 1, T.es⟩ h).fs) (hp : ps.map (·.1) = (stepT ⟨T.cs, T.zs, T.fs, T.d + 1, T.es⟩ h).es) (hb : Below w.heap.size w w') : RetApp w nm T h (.returned (.tuple #[.agg #[.string nm, v1, v2, v3, v4], .int .i64 0])) w' :=
  ⟨.inr ⟨hx, v1, v2, v3, v4, qs, ps, rfl, ho, hq, hp⟩, hb⟩
set_option maxRecDepth 100000 in
set_option maxHeartbeats 25600000 in
theorem pApply_any (nm : ByteArray) (u1 u2 u3 u4 : Value) (cs : List Cl) (zs : List Int) (fs : List Fk) (d : Nat) (es : List Ex) (h : Chg) (m : Int) (w : World) (hm : w.cell? ⟨0, 0, none⟩ = some (.int .i64 m)) (ht : RdT w 0 w.heap.size u1 u2 u3 u4 cs zs fs d es) (hlen : cs.length ≤ 1099511627776) (hF : ∀ e ∈ es, Ex.Fin d e) (hg : chkA nm.data.toList cs zs fs d es = 0 → GdT ⟨cs, zs, fs, d, es⟩) :
    Calls Try.prog 8 #[.agg #[.string nm, u1, u2, u3, u4], chV h] w (RetApp w nm ⟨cs, zs, fs, d, es⟩ h) := by
  have hcl : ∀ W : World, Below w.heap.size w W → W.cell? ⟨0, 0, none⟩ = some (.int .i64 m) := fun W hb => (hb.cell (p := ⟨0, 0, none⟩) (World.block_lt_of_cell? w _ hm)).trans hm
  have HRU := Lib.hid (fun (W : World) (g : Nat) (hb : Below w.heap.size w W) (o : Own W g 40 (chA h.k h.nm h.to h.c h.p)) => pRun_any nm u1 u2 u3 u4 (.slice (some ⟨g, 0, none⟩) 1 1) cs zs fs d es [h] m W (hcl W hb) (ht.step hb (Nat.le_refl _)) (rdH_one h o) hlen
    (fun hz k S hk hst => by
      have hk0 : k = 0 := by simp at hk; omega
      subst hk0
      rw [stAt_zero] at hst
      injection hst with hst
      subst hst
      exact GdT.up hF (hg hz)) (fun hz => (hg hz).s))
  have HFN := Lib.hid hF
  obtain ⟨A1, c1, e1⟩ := shK ht.c
  obtain ⟨A2, c2, e2⟩ := shI ht.k
  obtain ⟨A3, c3, e3⟩ := shF ht.f
  obtain ⟨A4, c4, e4, _⟩ := ht.x.slice
  subst e1 e2 e3 e4
  clear hcl ht hg hF hm hlen
  obtain ⟨hk, s1, s2, ⟨s3, ck, cb⟩, ⟨p1, p2, p3⟩⟩ := h
  unfold chV chA at *
  dsimp only at *
  obtain ⟨HT, HC, HR, HB⟩ := bx3 w 27 #[.string nm, .slice A1 cs.length c1, .slice A2 zs.length c2, .slice A3 fs.length c3, .slice A4 es.length c4] 40 #[.int .i64 hk, .string s1, .string s2, .string s3, .int .i64 ck, .bool cb, .int .i64 p1, .int .i64 p2, .string p3] 27 #[.string ⟨#[]⟩, .slice none 0 0, .slice none 0 0, .slice none 0 0, .slice none 0 0]
  obtain ⟨d0, d1, d2, d3, d4⟩ := Own.five HT.out
  obtain ⟨x0, x1, x2, x3, x4, x5, x6, x7, x8⟩ := oc9 HC
  generalize hW : ((w.alloc (.cells #[.string nm, .slice A1 cs.length c1, .slice A2 zs.length c2, .slice A3 fs.length c3, .slice A4 es.length c4] 27)).alloc (.cells #[.int .i64 hk, .string s1, .string s2, .string s3, .int .i64 ck, .bool cb, .int .i64 p1, .int .i64 p2, .string p3] 40)).alloc (.cells #[.string ⟨#[]⟩, .slice none 0 0, .slice none 0 0, .slice none 0 0, .slice none 0 0] 27) = W at *
  have HRW := Lib.hid (HRU.out (W.alloc (.cells #[.int .i64 hk, .string s1, .string s2, .string s3, .int .i64 ck, .bool cb, .int .i64 p1, .int .i64 p2, .string p3] 40)) W.heap.size (HB.out.trans ((bel_mk W _).mono HB.out.size)) (Own.new W _ _))
  have HRA := Lib.hid (HR.out.alloc (.cells #[.int .i64 hk, .string s1, .string s2, .string s3, .int .i64 ck, .bool cb, .int .i64 p1, .int .i64 p2, .string p3] 40))
  have HBA := Lib.hid (HB.out.trans ((bel_mk W (.cells #[.int .i64 hk, .string s1, .string s2, .string s3, .int .i64 ck, .bool cb, .int .i64 p1, .int .i64 p2, .string p3] 40)).mono HB.out.size))
  subst hW
  go_enter Try.func8, Try.ntmps8
  have hrw := HRW.out
  simp only [World.size_alloc] at hrw
  have HRX := Lib.hid hrw
  clear hrw
  go_wp2_with fail
  refine HRX.out.mono ?_
  rintro e w4 hr
  obtain ⟨hr, hb4⟩ := RetRun.one HFN.out hr
  have HR4 := Lib.hid (HRA.out.below hb4 HRA.out.lt)
  have HB4 := Lib.hid (HBA.out.trans (hb4.mono HBA.out.size))
  have hgl : w.heap.size + 1 + 1 < w4.heap.size := HR4.out.lt
  clear HRX HRW HRU HT HC d0 d1 d2 d3 d4 x0 x1 x2 x3 x4 x5 x6 x7 x8
  rcases hr with ⟨x, hx, hn, rfl⟩ | ⟨hx, v1, v2, v3, v4, qs, ps, rfl, ho, hq, hp⟩
  · have HX := Lib.hid hx
    have HN := Lib.hid hn
    unfold zTab
    have HR5 := Lib.hid (HR4.out.alloc (.cells #[.string ⟨#[]⟩, .slice none 0 0, .slice none 0 0, .slice none 0 0, .slice none 0 0] 27))
    obtain ⟨r0, r1, r2, r3, r4, m0, m1, m2, m3, m4⟩ := om5 HR5
    obtain ⟨t0, t1, t2, t3, t4⟩ := Own.five (Own.new w4 27 #[.string ⟨#[]⟩, .slice none 0 0, .slice none 0 0, .slice none 0 0, .slice none 0 0])
    have HXR := Lib.hid (own_store5 (.string ⟨#[]⟩) (.slice none 0 0) (.slice none 0 0) (.slice none 0 0) (.slice none 0 0) HR5.out)
    have HBF := Lib.hid ((((((HB4.out.trans ((bel_mk w4 (.cells #[.string ⟨#[]⟩, .slice none 0 0, .slice none 0 0, .slice none 0 0, .slice none 0 0] 27)).mono HB4.out.size)).sc (w.heap.size + 1 + 1) 0 (.string ⟨#[]⟩) (by omega)).sc (w.heap.size + 1 + 1) 1 (.slice none 0 0) (by omega)).sc (w.heap.size + 1 + 1) 2 (.slice none 0 0) (by omega)).sc (w.heap.size + 1 + 1) 3 (.slice none 0 0) (by omega)).sc (w.heap.size + 1 + 1) 4 (.slice none 0 0) (by omega))
    clear hx hn hb4 hgl
    go_wp2
    (try simp only [Exit.inBlock, Exit.then]); refine bodyPost_ret_by (Va.results_cell_row2 (by rfl) _ _ (w.heap.size + 1 + 1) _ (by rfl) (load_tabF HXR.out)) ?_ ?_; (focus rfl)
    exact RetApp.bad HX.out HN.out HBF.out
  · have HX := Lib.hid hx
    obtain ⟨A5, c5, e5⟩ := own_len ho.c
    obtain ⟨A6, c6, e6⟩ := own_len ho.k
    obtain ⟨A7, c7, e7⟩ := own_len ho.f
    obtain ⟨A8, c8, e8⟩ := own_len ho.x
    generalize hS : stepT ⟨cs, zs, fs, d + 1, es⟩ ⟨hk, s1, s2, (s3, ck, cb), (p1, p2, p3)⟩ = S at *
    have HSE := Lib.hid hS
    have HQ := Lib.hid hq
    have HP := Lib.hid hp
    subst e5 e6 e7 e8
    have HR5 := Lib.hid (HR4.out.alloc (.cells #[.string nm, .slice A5 S.cs.length c5, .slice A6 S.zs.length c6, .slice A7 qs.length c7, .slice A8 ps.length c8] 27))
    have ho5 := ho.later (bel_mk w4 (.cells #[.string nm, .slice A5 S.cs.length c5, .slice A6 S.zs.length c6, .slice A7 qs.length c7, .slice A8 ps.length c8] 27))
    have hnR : ¬ Mine (.slice A5 S.cs.length c5) (.slice A6 S.zs.length c6) (.slice A7 qs.length c7) (.slice A8 ps.length c8) qs (w.heap.size + 1 + 1) := fun hm => by have h := ho.mine_ge _ hm; simp only [World.size_alloc] at h; omega
    have hXR : (fun b => b < (((((w.alloc (.cells #[.string nm, .slice A1 cs.length c1, .slice A2 zs.length c2, .slice A3 fs.length c3, .slice A4 es.length c4] 27)).alloc (.cells #[.int .i64 hk, .string s1, .string s2, .string s3, .int .i64 ck, .bool cb, .int .i64 p1, .int .i64 p2, .string p3] 40)).alloc (.cells #[.string ⟨#[]⟩, .slice none 0 0, .slice none 0 0, .slice none 0 0, .slice none 0 0] 27)).alloc (.cells #[.int .i64 hk, .string s1, .string s2, .string s3, .int .i64 ck, .bool cb, .int .i64 p1, .int .i64 p2, .string p3] 40))).heap.size) (w.heap.size + 1 + 1) := by simp only [World.size_alloc]; omega
    have ho6 := (OwT.setX (OwT.setX (OwT.setX (OwT.setX (OwT.setX ho5 (p := ⟨w.heap.size + 1 + 1, 0, none⟩) hXR hnR (.string nm)) (p := ⟨w.heap.size + 1 + 1, 1, none⟩) hXR hnR (.slice A5 S.cs.length c5)) (p := ⟨w.heap.size + 1 + 1, 2, none⟩) hXR hnR (.slice A6 S.zs.length c6)) (p := ⟨w.heap.size + 1 + 1, 3, none⟩) hXR hnR (.slice A7 qs.length c7)) (p := ⟨w.heap.size + 1 + 1, 4, none⟩) hXR hnR (.slice A8 ps.length c8))
    have HO6 := Lib.hid ((ho6.lowN (show w.heap.size ≤ _ by simp only [World.size_alloc]; omega)).withX (X' := fun b => b < w.heap.size) (fun b _ (h : b < w.heap.size) => by simp only [World.size_alloc]; omega))
    obtain ⟨r0, r1, r2, r3, r4, m0, m1, m2, m3, m4⟩ := om5 HR5
    obtain ⟨t0, t1, t2, t3, t4⟩ := Own.five (Own.new w4 27 #[.string nm, .slice A5 S.cs.length c5, .slice A6 S.zs.length c6, .slice A7 qs.length c7, .slice A8 ps.length c8])
    have HXR := Lib.hid (own_store5 (.string nm) (.slice A5 S.cs.length c5) (.slice A6 S.zs.length c6) (.slice A7 qs.length c7) (.slice A8 ps.length c8) HR5.out)
    have HBF := Lib.hid ((((((HB4.out.trans ((bel_mk w4 (.cells #[.string nm, .slice A5 S.cs.length c5, .slice A6 S.zs.length c6, .slice A7 qs.length c7, .slice A8 ps.length c8] 27)).mono HB4.out.size)).sc (w.heap.size + 1 + 1) 0 (.string nm) (by omega)).sc (w.heap.size + 1 + 1) 1 (.slice A5 S.cs.length c5) (by omega)).sc (w.heap.size + 1 + 1) 2 (.slice A6 S.zs.length c6) (by omega)).sc (w.heap.size + 1 + 1) 3 (.slice A7 qs.length c7) (by omega)).sc (w.heap.size + 1 + 1) 4 (.slice A8 ps.length c8) (by omega))
    clear hx hb4 ho ho5 ho6 hnR hXR hS hq hp hgl
    go_wp2
    (try simp only [Exit.inBlock, Exit.then]); refine bodyPost_ret_by (Va.results_cell_row2 (by rfl) _ _ (w.heap.size + 1 + 1) _ (by rfl) (load_tabF HXR.out)) ?_ ?_; (focus rfl)
    subst S
    exact RetApp.fin HX.out HO6.out HQ.out HP.out HBF.out
end Go.Proofs.Yteihjneeiojgaaa
