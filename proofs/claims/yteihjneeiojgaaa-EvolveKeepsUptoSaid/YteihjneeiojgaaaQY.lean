import Derived.Test.YteihjneeiojgaaaSEoR
import Derived.Test.YteihjneeiojgaaaMC
import Derived.WalkKit
import Derived.WalkSpells
import Derived.WalkLawsBesides
import Derived.Deep.QuietTactic
import Derived.BigQuiet
import Derived.Handy
import Derived.Lib.Hide
import Derived.Test.YteihjneeiojgaaaSEoO
import Derived.Test.YteihjneeiojgaaaSEoQ
/-
  Changes opened. Conditions: none.
-/
namespace Go.Proofs.Yteihjneeiojgaaa
set_option maxRecDepth 100000
set_option linter.unusedVariables false
set_option linter.unusedSimpArgs false
open Go.ChangeShapes Go.WideShapes Go.ChangeAt Go.RowKit Go.Joins Go.Deep

theorem cellsChg : Try.prog.cellsOf 40 = 9 := by kernel_rfl
theorem cellsIntC : Try.prog.cellsOf 3 = 1 := by kernel_rfl
theorem cellsStrC : Try.prog.cellsOf 9 = 1 := by kernel_rfl
theorem cellsBoolC : Try.prog.cellsOf 4 = 1 := by kernel_rfl
section
variable {H : Type} {enc : TypeId × Value → H} {W : World} {base : Nat}
set_option maxRecDepth 100000 in
theorem open_chg {v : Value} {d : DataW H} {p : List MemPlace} (hv : Value.okWide Try.prog W .any base 40 v) (h : DataW.Trod enc Try.prog W 0 (fun _ => true) true 40 v d p) : ∃ g : Chg, v = chV g := by
  obtain ⟨cs, rfl, hsz⟩ := okWide_struct Try.underlying40 hv
  rw [cellsChg] at hsz
  obtain ⟨l⟩ := cs
  match l, hsz with
  | [c0, c1, c2, c3, c4, c5, c6, c7, c8], _ =>
    obtain ⟨fuel, hf⟩ := h
    obtain ⟨xs, n', _, hxy, _, hxl, hfl⟩ := DataW.trod_struct Try.underlying40 hf
    match xs, hxl with
    | [y0, y1, y2, y3, y4], _ =>
      have g0 := hfl 0 _ rfl
      have g1 := hfl 1 _ rfl
      have g2 := hfl 2 _ rfl
      have g3 := hfl 3 _ rfl
      have g4 := hfl 4 _ rfl
      simp [cellsIntC, cellsStrC, cellsCol, cellsVal, Value.cells] at g0 g1 g2 g3 g4
      obtain ⟨a0, e0, _⟩ := DataW.trod_int Try.underlying3 g0
      obtain ⟨a1, e1, _⟩ := DataW.trod_string Try.underlying9 g1
      obtain ⟨a2, e2, _⟩ := DataW.trod_string Try.underlying9 g2
      obtain ⟨zs, n2, _, _, hzc, hzl, hgl⟩ := DataW.trod_struct Try.underlying36 g3
      obtain ⟨us, n3, _, _, huc, hul, hul2⟩ := DataW.trod_struct Try.underlying38 g4
      match zs, hzl, us, hul with
      | [z0, z1, z2], _, [u0, u1, u2], _ =>
        have k0 := hgl 0 _ rfl
        have k1 := hgl 1 _ rfl
        have k2 := hgl 2 _ rfl
        have m0 := hul2 0 _ rfl
        have m1 := hul2 1 _ rfl
        have m2 := hul2 2 _ rfl
        simp [cellsIntC, cellsStrC, cellsBoolC] at k0 k1 k2 m0 m1 m2
        obtain ⟨b0, f0, _⟩ := DataW.trod_string Try.underlying9 k0
        obtain ⟨b1, f1, _⟩ := DataW.trod_int Try.underlying3 k1
        obtain ⟨b2, f2, _⟩ := DataW.trod_bool Try.underlying4 k2
        obtain ⟨q0, r0, _⟩ := DataW.trod_int Try.underlying3 m0
        obtain ⟨q1, r1, _⟩ := DataW.trod_int Try.underlying3 m1
        obtain ⟨q2, r2, _⟩ := DataW.trod_string Try.underlying9 m2
        simp at e0 e1 e2 f0 f1 f2 r0 r1 r2
        subst e0 e1 e2 f0 f1 f2 r0 r1 r2
        exact ⟨⟨a0, a1, a2, (b0, b1, b2), (q0, q1, q2)⟩, rfl⟩
end
end Go.Proofs.Yteihjneeiojgaaa
/-
  The walk of the statement EvolveKeeps: where columns are found after a change, and what they are. Conditions: the search's variable holds some number; lengths.
-/
namespace Go.Proofs.Yteihjneeiojgaaa
set_option maxRecDepth 100000
set_option linter.unusedVariables false
set_option linter.unusedSimpArgs false
open Go.RowKit

theorem findK_hit (s : ByteArray) : ∀ (l : List Cl) (j : Nat), 0 ≤ findK s j l → ∃ (m : Nat) (c : Cl), findK s j l = ((j + m : Nat) : Int) ∧ l[m]? = some c ∧ c.1.toList = s.toList
  | [], j, h => by unfold findK at h; omega
  | c :: t, j, h => by
    unfold findK at h ⊢
    by_cases hc : (c.1.toList == s.toList) = true
    · rw [if_pos hc]; exact ⟨0, c, by simp, rfl, by simpa using hc⟩
    · rw [if_neg hc] at h ⊢
      obtain ⟨m, c', h1, h2, h3⟩ := findK_hit s t (j + 1) h
      exact ⟨m + 1, c', by rw [h1]; omega, by simpa using h2, h3⟩
/-- What holds of the place where column i is found after the change h. -/
structure Kept (nm : ByteArray) (cs : List Cl) (zs : List Int) (fs : List Fk) (d : Nat) (es : List Ex) (h : Chg) (i : Nat) (q : Cl) : Prop where
  neg : idxE nm.data.toList cs zs fs d es h i < 0 → h.k = 2 ∧ h.nm.toList = q.1.toList
  pos : 0 ≤ idxE nm.data.toList cs zs fs d es h i → ∃ κ : Nat, idxE nm.data.toList cs zs fs d es h i = (κ : Int) ∧ κ < (chCs cs h (findK h.nm 0 cs).toNat).length ∧ (∀ j : Nat, j < i → idxE nm.data.toList cs zs fs d es h j ≠ (κ : Int)) ∧ (((h.k = 3 ∨ h.k = 4) ∧ h.nm.toList = q.1.toList) ∨ (chCs cs h (findK h.nm 0 cs).toNat)[κ]? = some q)
theorem kept_all {nm : ByteArray} {cs : List Cl} {zs : List Int} {fs : List Fk} {d : Nat} {es : List Ex} {h : Chg} (he : evoE nm.data.toList cs zs fs d es h = 0) {i : Nat} {q : Cl} (hq : cs[i]? = some q) : Kept nm cs zs fs d es h i q := by
  obtain ⟨hi, hqe⟩ := List.getElem?_eq_some_iff.1 hq
  have hce : errT ⟨cs, zs, fs, d, es⟩ h = 0 := by
    unfold evoE at he
    by_cases h0 : chkA nm.data.toList cs zs fs d es = 0
    · rw [if_neg (fun e => e h0)] at he; exact he
    · rw [if_pos h0] at he; exact absurd he h0
  obtain ⟨hk, hF⟩ := chg_ok hce
  dsimp only at hF
  have hidx : ∀ j : Nat, j < cs.length → idxE nm.data.toList cs zs fs d es h j = if h.k ≠ 2 then (j : Int) else if (j : Int) = findK h.nm 0 cs then -1 else mvI (findK h.nm 0 cs) j := fun j hj => by
    unfold idxE
    rw [if_neg (fun e => e.elim (fun e => e he) (fun e => e.elim (fun e => by omega) (fun e => by omega)))]
  have hii := hidx i hi
  by_cases h1 : h.k = 1
  · rw [if_pos (by omega)] at hii
    refine ⟨fun hn => by omega, fun _ => ⟨i, hii, ?_, fun j hj => ?_, .inr ?_⟩⟩
    · unfold chCs; rw [if_pos h1, List.length_append]; omega
    · rw [hidx j (by omega), if_pos (by omega)]; omega
    · unfold chCs; rw [if_pos h1, List.getElem?_append_left hi]; exact hq
  obtain ⟨m, c, hfm, hcm, hcn⟩ := findK_hit h.nm cs 0 (hF h1)
  rw [Nat.zero_add] at hfm
  obtain ⟨hml, hme⟩ := List.getElem?_eq_some_iff.1 hcm
  rw [hfm] at hidx hii
  by_cases h2 : h.k = 2
  · have hidx2 : ∀ j : Nat, j < cs.length → idxE nm.data.toList cs zs fs d es h j = if (j : Int) = (m : Int) then -1 else mvI m j := fun j hj => by rw [hidx j hj, if_neg (fun e => e h2)]
    have hii := hidx2 i hi
    have hch : chCs cs h (findK h.nm 0 cs).toNat = cs.take m ++ cs.drop (m + 1) := by
      unfold chCs; rw [if_neg h1, if_pos h2, hfm, Int.toNat_natCast]
    have hlen : (cs.take m ++ cs.drop (m + 1)).length = cs.length - 1 := by
      rw [List.length_append, List.length_take, List.length_drop]; omega
    by_cases him : i = m
    · subst him
      rw [if_pos rfl] at hii
      refine ⟨fun _ => ⟨h2, ?_⟩, fun hn => by omega⟩
      have e : c = q := by rw [hq] at hcm; exact (Option.some.inj hcm).symm
      rw [← e]; exact hcn.symm
    · rw [if_neg (by omega)] at hii
      unfold mvI at hii hidx2
      refine ⟨fun hn => by rw [hii] at hn; split at hn <;> omega, fun _ => ?_⟩
      by_cases hlt : m < i
      · rw [if_pos (by omega)] at hii
        refine ⟨i - 1, by omega, by rw [hch, hlen]; omega, fun j hj => ?_, .inr ?_⟩
        · rw [hidx2 j (by omega)]; split
          · omega
          · split <;> omega
        · rw [hch, List.getElem?_append_right (by rw [List.length_take]; omega), List.length_take, Nat.min_eq_left (by omega), List.getElem?_drop, show m + 1 + (i - 1 - m) = i by omega]
          exact hq
      · rw [if_neg (by omega)] at hii
        refine ⟨i, hii, by rw [hch, hlen]; omega, fun j hj => ?_, .inr ?_⟩
        · rw [hidx2 j (by omega)]; split
          · omega
          · split <;> omega
        · rw [hch, List.getElem?_append_left (by rw [List.length_take]; omega), List.getElem?_take, if_pos (by omega)]
          exact hq
  · rw [if_pos h2] at hii
    have hne : ∀ j : Nat, j < i → idxE nm.data.toList cs zs fs d es h j ≠ (i : Int) := fun j hj => by rw [hidx j (by omega), if_pos h2]; omega
    refine ⟨fun hn => by omega, fun _ => ⟨i, hii, ?_, hne, ?_⟩⟩
    · unfold chCs; rw [if_neg h1, if_neg h2]; split <;> (rw [List.length_set]; exact hi)
    · by_cases him : i = m
      · subst him
        have e : c = q := by rw [hq] at hcm; exact (Option.some.inj hcm).symm
        exact .inl ⟨by omega, by rw [← e]; exact hcn.symm⟩
      · refine .inr ?_
        unfold chCs
        rw [if_neg h1, if_neg h2, hfm, Int.toNat_natCast]
        split <;> (rw [List.getElem?_set_ne (fun e => him e.symm)]; exact hq)
end Go.Proofs.Yteihjneeiojgaaa
/-
  The walk of the statement EvolveKeeps. Conditions: the search's variable holds some number; lengths.
-/
namespace Go.Proofs.Yteihjneeiojgaaa
set_option maxRecDepth 100000
set_option linter.unusedVariables false
set_option linter.unusedSimpArgs false
open Go.RowKit

theorem eqC_self (q : Cl) : eqC q q = true := by unfold eqC; simp
set_option maxRecDepth 100000 in
set_option maxHeartbeats 25600000 in
theorem law_ekeeps (nm : ByteArray) (vc vk vf vx : Value) (cs : List Cl) (zs : List Int) (fs : List Fk) (es : List Ex) (h : Chg) (d : Nat) (m : Int) (w : World) (hm : w.cell? ⟨0, 0, none⟩ = some (.int .i64 m)) (hc : RdK w 0 w.heap.size vc cs) (hk : RdI w 0 w.heap.size vk zs) (hf : RdF w 0 w.heap.size vf fs) (he : RdE w 0 w.heap.size (d + 1) vx es) (hlen0 : cs.length ≤ 1048576)
    (lz : zs.length ≤ 1048576) (lf1 : ∀ f ∈ fs, f.1.length ≤ 1048576) (hok : ∀ m, ∀ e ∈ es, okX m e) (hcl : ∀ m, (es.flatMap (colE m)).length ≤ 1048576) :
    Calls Try.prog 4 #[.agg #[.string nm, vc, vk, vf, vx], chV h] w fun e w' => e = .returned (.bool true) ∧ Below w.heap.size w w' := by
  have hlen : cs.length ≤ 1099511627776 := by omega
  have ht : RdT w 0 w.heap.size vc vk vf vx cs zs fs d es := ⟨hc, hk, hf, he⟩
  have hcl' : ∀ W : World, Below w.heap.size w W → W.cell? ⟨0, 0, none⟩ = some (.int .i64 m) := fun W hb => (hb.cell (p := ⟨0, 0, none⟩) (World.block_lt_of_cell? w _ hm)).trans hm
  have hg : chkA nm.data.toList cs zs fs d es = 0 → GdT ⟨cs, zs, fs, d, es⟩ := fun hz => gd_of hz lz lf1 hok hcl
  have hF : ∀ e ∈ es, Ex.Fin d e := fun e hm => (RdE.fin he e hm) e hm
  have HAP := Lib.hid (fun (W : World) (hb : Below w.heap.size w W) => pApply_any nm vc vk vf vx cs zs fs d es h m W (hcl' W hb) (ht.step hb (Nat.le_refl _)) hlen hF hg)
  have HIX := Lib.hid (fun (col : Int) (W : World) (hb : Below w.heap.size w W) => pIndex_any nm vc vk vf vx cs zs fs d es h col m W (hcl' W hb) (ht.step hb (Nat.le_refl _)) hlen hg)
  have HAW := Lib.hid (fun (W : World) (hb : Below w.heap.size w W) => awake14_any m W (hcl' W hb))
  have HKE := Lib.hid (fun (hz : evoE nm.data.toList cs zs fs d es h = 0) (i : Nat) (q : Cl) (hq : cs[i]? = some q) => kept_all hz hq)
  have HCC := Lib.hid hc
  have hS1 : (stepT ⟨cs, zs, fs, d + 1, es⟩ h).cs = chCs cs h (findK h.nm 0 cs).toNat := rfl
  have hSL : (chCs cs h (findK h.nm 0 cs).toNat).length ≤ 1048577 := by
    unfold chCs
    split
    · rw [List.length_append]; simp; omega
    · split
      · rw [List.length_append, List.length_take, List.length_drop]; omega
      · split <;> (rw [List.length_set]; omega)
  obtain ⟨A0, c0', e0⟩ := shK hc
  obtain ⟨A1, c1', e1⟩ := shI hk
  obtain ⟨A2, c2', e2⟩ := shF hf
  obtain ⟨A3, c3', e3, _⟩ := he.slice
  subst e0 e1 e2 e3
  clear hc hk hf he hm ht hg hcl' lz lf1 hok hcl hF
  obtain ⟨HO0, HO1, HB⟩ := bx2 w 27 #[.string nm, .slice A0 cs.length c0', .slice A1 zs.length c1', .slice A2 fs.length c2', .slice A3 es.length c3'] 40 (chA h.k h.nm h.to h.c h.p)
  have HKK := HKE
  clear HKE
  unfold chV at *
  obtain ⟨d0, d1, d2, d3, d4⟩ := Own.five HO0.out
  have HX1 := HO1
  unfold chA at HX1
  obtain ⟨x0, x1, x2, x3, x4, x5, x6, x7, x8⟩ := oc9 HX1
  unfold chA at *
  go_enter Try.func4, Try.ntmps4
  go_wp2_with fail
  with_reducible refine (HAP.out _ HB.out).mono ?_
  rintro e w4 ⟨hr, hb⟩
  replace HO0 := blw HO0 hb
  replace HO1 := blw HO1 hb
  replace HB := btr HB hb
  clear hb d0 d1 d2 d3 d4 x0 x1 x2 x3 x4 x5 x6 x7 x8 HX1
  rcases hr with ⟨x, hx, hn, rfl⟩ | ⟨hx, v1, v2, v3, v4, qs, ps, rfl, ho, hq, hp⟩
  · have hxb : (x != 0) = true := by simp [hn]
    unfold zTab
    have HB5 := Lib.hid (HB.out.trans ((bel_mk w4 (.cells #[.string ⟨#[]⟩, .slice none 0 0, .slice none 0 0, .slice none 0 0, .slice none 0 0] 27)).mono HB.out.size))
    clear hx hn
    go_wp2_with fail
    with_reducible refine (HAW.out _ HB5.out).mono ?_
    rintro e w6 ⟨rfl, hb⟩
    replace HB5 := btr HB5 hb
    go_wp2
    go_ret
    exact ⟨rfl, HB5.out⟩
  have hrow := ho.c
  dsimp only at hrow
  rw [hS1] at hrow
  have HK4 := Lib.hid (rdK_ownL hrow (by omega))
  obtain ⟨A5, c5, e5⟩ := own_len hrow
  obtain ⟨A6, c6, e6⟩ := own_len ho.k
  obtain ⟨A7, c7, e7⟩ := own_len ho.f
  obtain ⟨A8, c8, e8⟩ := own_len ho.x
  have HKN := Lib.hid (fun (i : Nat) (q : Cl) (hq : cs[i]? = some q) => (HKK.out hx i q hq).neg)
  have HKP := Lib.hid (fun (i : Nat) (q : Cl) (hq : cs[i]? = some q) => (HKK.out hx i q hq).pos)
  obtain ⟨ix, hix⟩ : ∃ f : Int → Int, ∀ c : Int, idxE nm.data.toList cs zs fs d es h c = f c := ⟨_, fun _ => rfl⟩
  simp only [hix] at HIX HKN HKP
  clear HKK HAP hix ho hq hp hx hrow hS1
  generalize (stepT ⟨cs, zs, fs, d + 1, es⟩ h).zs.length = n6 at *
  generalize qs.length = n7 at *
  generalize ps.length = n8 at *
  generalize (chCs cs h (findK h.nm 0 cs).toNat) = us at *
  obtain ⟨k, s1, s2, ⟨s3, ck, cb⟩, ⟨p1, p2, p3⟩⟩ := h
  dsimp only at *
  subst e5 e6 e7 e8
  have hbW := bel_mk w4 (.cells #[.string nm, .slice A5 us.length c5, .slice A6 n6 c6, .slice A7 n7 c7, .slice A8 n8 c8] 27)
  have HT := Lib.hid (HO0.out.alloc (.cells #[.string nm, .slice A5 us.length c5, .slice A6 n6 c6, .slice A7 n7 c7, .slice A8 n8 c8] 27))
  have HC := Lib.hid (HO1.out.alloc (.cells #[.string nm, .slice A5 us.length c5, .slice A6 n6 c6, .slice A7 n7 c7, .slice A8 n8 c8] 27))
  have HU := Lib.hid (Own.new w4 27 #[.string nm, .slice A5 us.length c5, .slice A6 n6 c6, .slice A7 n7 c7, .slice A8 n8 c8])
  have HK5 := Lib.hid (HK4.out.step hbW (Nat.le_refl _))
  have HB5 := Lib.hid (HB.out.trans (hbW.mono HB.out.size))
  clear HO0 HO1 HB HK4 hbW
  obtain ⟨d0, d1, d2, d3, d4⟩ := Own.five HT.out
  go_wp2_with fail
  generalize w4.alloc (.cells #[.string nm, .slice A5 us.length c5, .slice A6 n6 c6, .slice A7 n7 c7, .slice A8 n8 c8] 27) = W at *
  clear d0 d1 d2 d3 d4
  go_loopw [23] (fun i' wr => ∃ i : Nat, i ≤ cs.length ∧ i' = .int .i64 i ∧ Below W.heap.size W wr) (fun i' _ => cs.length - (intOf i').toNat)
  case atStart => exact ⟨0, Nat.zero_le _, rfl, Below.refl _ _⟩
  case round =>
    obtain ⟨i, hi, rfl, hbr⟩ := hrel
    have HTr := blw HT hbr
    have HCr := blw HC hbr
    have HBr := btr HB5 hbr
    obtain ⟨d0, d1, d2, d3, d4⟩ := Own.five HTr.out
    obtain ⟨x0, x1, x2, x3, x4, x5, x6, x7, x8⟩ := oc9 HCr
    by_cases hlt : i < cs.length
    rotate_left
    · have hii : ¬ (i : Int) < cs.length := by omega
      go_wp2_with fail
      with_reducible refine (HAW.out _ HBr.out).mono ?_
      rintro e w6 ⟨rfl, hb⟩
      replace HBr := btr HBr hb
      clear d0 d1 d2 d3 d4 x0 x1 x2 x3 x4 x5 x6 x7 x8
      go_wp2
      go_ret
      exact ⟨rfl, HBr.out⟩
    have hii : (i : Int) < cs.length := by omega
    go_wp2_with fail
    with_reducible refine (HIX.out i _ HBr.out).mono ?_
    rintro e w6 ⟨rfl, hb⟩
    have hbw6 := hbr.trans (hb.mono hbr.size)
    have HBX := Lib.hid hbw6
    replace HBr := btr HBr hb
    clear hb hbr HTr HCr d0 d1 d2 d3 d4 x0 x1 x2 x3 x4 x5 x6 x7 x8 hbw6
    have HTr := blw HT HBX.out
    have HCr := blw HC HBX.out
    have HUr := blw HU HBX.out
    obtain ⟨A9, c9, hv9, _, hcc⟩ := HCC.out
    injection hv9 with e1 e2 e3
    subst e1 e3
    obtain ⟨ad, rfl, _, hab, a0, a1, a2⟩ := hcc i _ (List.getElem?_eq_getElem hlt)
    have hN := HKN.out i _ (List.getElem?_eq_getElem hlt)
    have hP := HKP.out i _ (List.getElem?_eq_getElem hlt)
    generalize cs[i] = q at *
    obtain ⟨qn, qk, qb⟩ := q
    dsimp only at a0 a1 a2 hN hP
    generalize ix i = K at *
    have EB := Lib.hid hab
    have E0 := Lib.hid a0
    have E1 := Lib.hid a1
    have E2 := Lib.hid a2
    clear hcc hab a0 a1 a2
    by_cases hK : K < 0
    · obtain ⟨hk2, hnm⟩ := hN hK
      subst hk2
      have hnb : (s1.toList == qn.toList) = true := by simp [hnm]
      have hnb2 : (s1.toList != qn.toList) = false := by simp [hnm]
      clear hN hP hnm
      go_wp2_with fail
      have T1 := after_cell HTr.out.lt (HTr.out.cell 1)
      obtain ⟨x0, x1, x2, x3, x4, x5, x6, x7, x8⟩ := oa9 HCr
      have e0 : ∀ p : After w6, p.w.cell? (ad.add (i * 3)) = some (.string qn) := after_cell (by rw [add_block]; exact (Nat.lt_of_lt_of_le EB.out HBr.out.size)) ((HBr.out.cell (p := ad.add (i * 3)) (by rw [add_block]; exact EB.out)).trans E0.out)
      have e1 : ∀ p : After w6, p.w.cell? ⟨(ad.add (i * 3)).block, (ad.add (i * 3)).off + 1, none⟩ = some (.int .i64 qk) := after_cell (by show (ad.add (i * 3)).block < _; rw [add_block]; exact (Nat.lt_of_lt_of_le EB.out HBr.out.size)) ((HBr.out.cell (p := ⟨(ad.add (i * 3)).block, (ad.add (i * 3)).off + 1, none⟩) (by show (ad.add (i * 3)).block < _; rw [add_block]; exact EB.out)).trans E1.out)
      have e2 : ∀ p : After w6, p.w.cell? ⟨(ad.add (i * 3)).block, (ad.add (i * 3)).off + 2, none⟩ = some (.bool qb) := after_cell (by show (ad.add (i * 3)).block < _; rw [add_block]; exact (Nat.lt_of_lt_of_le EB.out HBr.out.size)) ((HBr.out.cell (p := ⟨(ad.add (i * 3)).block, (ad.add (i * 3)).off + 2, none⟩) (by show (ad.add (i * 3)).block < _; rw [add_block]; exact EB.out)).trans E2.out)
      (refine wp_region_after (by kernel_rfl) (by kernel_rfl) ?_; (repeat (go_big_quiet_step (fail))); refine wpQuiet_nil ?_; intro wq hw0; obtain ⟨⟨wq0, hbq⟩, hw1⟩ := hw0; subst hw1; (try dsimp only))
      have hbf := HBX.out.trans (hbq.mono HBX.out.size)
      clear T1 x0 x1 x2 x3 x4 x5 x6 x7 x8 e0 e1 e2 hnb hnb2
      go_wp2
      go_roundw
      case rel => exact ⟨i + 1, by omega, by go_num, hbf⟩
      case measure => simp [intOf]; omega
    · obtain ⟨κ, hκe, hκ, hne, hor⟩ := hP (by omega)
      subst hκe
      have hκi : ¬ (us.length : Int) ≤ (κ : Int) := by omega
      clear hN hP
      have HNE := Lib.hid hne
      have HOR := Lib.hid hor
      clear hne hor
      obtain ⟨r0, r1, r2, r3, r4⟩ := Own.five HUr.out
      go_wp2_with fail
      clear r0 r1 r2 r3 r4
      have hgd : decide (us.length ≤ κ) = false := decide_eq_false (by omega)
      rw [hgd]
      clear hgd
      go_loopw [52] (fun j' wr => ∃ j : Nat, j ≤ i ∧ j' = .int .i64 j ∧ Below W.heap.size W wr) (fun j' _ => i - (intOf j').toNat)
      case atStart => exact ⟨0, Nat.zero_le _, rfl, HBX.out⟩
      case round =>
        clear HTr HCr HUr HBr HBX
        obtain ⟨j, hj, rfl, hbr⟩ := hrel
        have HTr := blw HT hbr
        have HCr := blw HC hbr
        have HUr := blw HU hbr
        have HBr := btr HB5 hbr
        have HBX := Lib.hid hbr
        by_cases hlj : j < i
        · have hji : (j : Int) < (i : Int) := by omega
          obtain ⟨d0, d1, d2, d3, d4⟩ := Own.five HTr.out
          obtain ⟨x0, x1, x2, x3, x4, x5, x6, x7, x8⟩ := oc9 HCr
          go_wp2_with fail
          with_reducible refine (HIX.out j _ HBr.out).mono ?_
          rintro e w8 ⟨rfl, hb⟩
          have hbf := HBX.out.trans (hb.mono HBX.out.size)
          have hnj := HNE.out j hlj
          generalize ix j = K2 at *
          have hkb : (K2 == (κ : Int)) = false := by rw [beq_eq_false_iff_ne]; exact hnj
          clear hb d0 d1 d2 d3 d4 x0 x1 x2 x3 x4 x5 x6 x7 x8 hnj
          go_wp2
          go_roundw
          case rel => exact ⟨j + 1, by omega, by go_num, hbf⟩
          case measure => simp [intOf]; omega
        · have hji : ¬ (j : Int) < (i : Int) := by omega
          clear hbr
          go_wp2_with fail
          by_cases h3 : k = 3
          · subst h3
            cases hbn : (s1.toList == qn.toList)
            · have hu : us[κ]? = some (qn, qk, qb) := HOR.out.elim (fun e => by have h9 := e.2; rw [h9] at hbn; simp at hbn) id
              have T1 := after_cell HTr.out.lt (HTr.out.cell 1)
              have U1 := after_cell HUr.out.lt (HUr.out.cell 1)
              obtain ⟨x0, x1, x2, x3, x4, x5, x6, x7, x8⟩ := oa9 HCr
              have e0 : ∀ p : After wr, p.w.cell? (ad.add (i * 3)) = some (.string qn) := after_cell (by rw [add_block]; exact (Nat.lt_of_lt_of_le EB.out HBr.out.size)) ((HBr.out.cell (p := ad.add (i * 3)) (by rw [add_block]; exact EB.out)).trans E0.out)
              have e1 : ∀ p : After wr, p.w.cell? ⟨(ad.add (i * 3)).block, (ad.add (i * 3)).off + 1, none⟩ = some (.int .i64 qk) := after_cell (by show (ad.add (i * 3)).block < _; rw [add_block]; exact (Nat.lt_of_lt_of_le EB.out HBr.out.size)) ((HBr.out.cell (p := ⟨(ad.add (i * 3)).block, (ad.add (i * 3)).off + 1, none⟩) (by show (ad.add (i * 3)).block < _; rw [add_block]; exact EB.out)).trans E1.out)
              have e2 : ∀ p : After wr, p.w.cell? ⟨(ad.add (i * 3)).block, (ad.add (i * 3)).off + 2, none⟩ = some (.bool qb) := after_cell (by show (ad.add (i * 3)).block < _; rw [add_block]; exact (Nat.lt_of_lt_of_le EB.out HBr.out.size)) ((HBr.out.cell (p := ⟨(ad.add (i * 3)).block, (ad.add (i * 3)).off + 2, none⟩) (by show (ad.add (i * 3)).block < _; rw [add_block]; exact EB.out)).trans E2.out)
              (refine wp_region_after (by kernel_rfl) (by kernel_rfl) ?_; (repeat (go_big_quiet_step (fail))); refine wpQuiet_nil ?_; intro wq hw0; obtain ⟨⟨wq0, hbq⟩, hw1⟩ := hw0; subst hw1; (try dsimp only))
              have hbf := HBX.out.trans (hbq.mono HBX.out.size)
              have HBf := Lib.hid hbf
              clear T1 U1 x0 x1 x2 x3 x4 x5 x6 x7 x8 e0 e1 e2 HTr HCr HUr
              have HTr := blw HT hbf
              have HCr := blw HC hbf
              have HUr := blw HU hbf
              have HBr := btr HB5 hbf
              clear hbq hbf HBX
              go_wp2_with fail
              obtain ⟨A9, c9, hv9, _, hcc⟩ := HK5.out
              injection hv9 with e1 e2 e3
              subst e1 e3
              obtain ⟨bd, rfl, _, hab, a0, a1, a2⟩ := hcc κ _ hu
              dsimp only at a0 a1 a2
              have FB := Lib.hid hab
              have F0 := Lib.hid a0
              have F1 := Lib.hid a1
              have F2 := Lib.hid a2
              clear hcc hab a0 a1 a2
              have hneq : ∀ V : World, (binOp .neq 36 (.agg #[.string qn, .int .i64 qk, .bool qb]) (.agg #[.string qn, .int .i64 qk, .bool qb])).run Try.prog V = .ok (.bool false) V := fun V => by rw [neq_col, eqC_self]; rfl
              have T1 := after_cell HTr.out.lt (HTr.out.cell 1)
              have U1 := after_cell HUr.out.lt (HUr.out.cell 1)
              obtain ⟨x0, x1, x2, x3, x4, x5, x6, x7, x8⟩ := oa9 HCr
              have e0 : ∀ p : After wq, p.w.cell? (ad.add (i * 3)) = some (.string qn) := after_cell (by rw [add_block]; exact (Nat.lt_of_lt_of_le EB.out HBr.out.size)) ((HBr.out.cell (p := ad.add (i * 3)) (by rw [add_block]; exact EB.out)).trans E0.out)
              have e1 : ∀ p : After wq, p.w.cell? ⟨(ad.add (i * 3)).block, (ad.add (i * 3)).off + 1, none⟩ = some (.int .i64 qk) := after_cell (by show (ad.add (i * 3)).block < _; rw [add_block]; exact (Nat.lt_of_lt_of_le EB.out HBr.out.size)) ((HBr.out.cell (p := ⟨(ad.add (i * 3)).block, (ad.add (i * 3)).off + 1, none⟩) (by show (ad.add (i * 3)).block < _; rw [add_block]; exact EB.out)).trans E1.out)
              have e2 : ∀ p : After wq, p.w.cell? ⟨(ad.add (i * 3)).block, (ad.add (i * 3)).off + 2, none⟩ = some (.bool qb) := after_cell (by show (ad.add (i * 3)).block < _; rw [add_block]; exact (Nat.lt_of_lt_of_le EB.out HBr.out.size)) ((HBr.out.cell (p := ⟨(ad.add (i * 3)).block, (ad.add (i * 3)).off + 2, none⟩) (by show (ad.add (i * 3)).block < _; rw [add_block]; exact EB.out)).trans E2.out)
              have f0 : ∀ p : After wq, p.w.cell? (bd.add (κ * 3)) = some (.string qn) := after_cell (by rw [add_block]; exact (Nat.lt_of_lt_of_le FB.out HBf.out.size)) ((HBf.out.cell (p := bd.add (κ * 3)) (by rw [add_block]; exact FB.out)).trans F0.out)
              have f1 : ∀ p : After wq, p.w.cell? ⟨(bd.add (κ * 3)).block, (bd.add (κ * 3)).off + 1, none⟩ = some (.int .i64 qk) := after_cell (by show (bd.add (κ * 3)).block < _; rw [add_block]; exact (Nat.lt_of_lt_of_le FB.out HBf.out.size)) ((HBf.out.cell (p := ⟨(bd.add (κ * 3)).block, (bd.add (κ * 3)).off + 1, none⟩) (by show (bd.add (κ * 3)).block < _; rw [add_block]; exact FB.out)).trans F1.out)
              have f2 : ∀ p : After wq, p.w.cell? ⟨(bd.add (κ * 3)).block, (bd.add (κ * 3)).off + 2, none⟩ = some (.bool qb) := after_cell (by show (bd.add (κ * 3)).block < _; rw [add_block]; exact (Nat.lt_of_lt_of_le FB.out HBf.out.size)) ((HBf.out.cell (p := ⟨(bd.add (κ * 3)).block, (bd.add (κ * 3)).off + 2, none⟩) (by show (bd.add (κ * 3)).block < _; rw [add_block]; exact FB.out)).trans F2.out)
              (refine wp_region_after (by kernel_rfl) (by kernel_rfl) ?_; (repeat (go_big_quiet_step (fail))); refine wpQuiet_nil ?_; intro wq hw0; obtain ⟨⟨wq0, hbq⟩, hw1⟩ := hw0; subst hw1; (try dsimp only))
              have hbf := HBf.out.trans (hbq.mono HBf.out.size)
              clear T1 U1 x0 x1 x2 x3 x4 x5 x6 x7 x8 e0 e1 e2 f0 f1 f2 hneq HTr HCr HUr
              go_wp2
              go_roundw
              case rel => exact ⟨i + 1, by omega, by go_num, hbf⟩
              case measure => simp [intOf]; omega
            · clear HOR
              have T1 := after_cell HTr.out.lt (HTr.out.cell 1)
              have U1 := after_cell HUr.out.lt (HUr.out.cell 1)
              obtain ⟨x0, x1, x2, x3, x4, x5, x6, x7, x8⟩ := oa9 HCr
              have e0 : ∀ p : After wr, p.w.cell? (ad.add (i * 3)) = some (.string qn) := after_cell (by rw [add_block]; exact (Nat.lt_of_lt_of_le EB.out HBr.out.size)) ((HBr.out.cell (p := ad.add (i * 3)) (by rw [add_block]; exact EB.out)).trans E0.out)
              have e1 : ∀ p : After wr, p.w.cell? ⟨(ad.add (i * 3)).block, (ad.add (i * 3)).off + 1, none⟩ = some (.int .i64 qk) := after_cell (by show (ad.add (i * 3)).block < _; rw [add_block]; exact (Nat.lt_of_lt_of_le EB.out HBr.out.size)) ((HBr.out.cell (p := ⟨(ad.add (i * 3)).block, (ad.add (i * 3)).off + 1, none⟩) (by show (ad.add (i * 3)).block < _; rw [add_block]; exact EB.out)).trans E1.out)
              have e2 : ∀ p : After wr, p.w.cell? ⟨(ad.add (i * 3)).block, (ad.add (i * 3)).off + 2, none⟩ = some (.bool qb) := after_cell (by show (ad.add (i * 3)).block < _; rw [add_block]; exact (Nat.lt_of_lt_of_le EB.out HBr.out.size)) ((HBr.out.cell (p := ⟨(ad.add (i * 3)).block, (ad.add (i * 3)).off + 2, none⟩) (by show (ad.add (i * 3)).block < _; rw [add_block]; exact EB.out)).trans E2.out)
              (refine wp_region_after (by kernel_rfl) (by kernel_rfl) ?_; (repeat (go_big_quiet_step (fail))); refine wpQuiet_nil ?_; intro wq hw0; obtain ⟨⟨wq0, hbq⟩, hw1⟩ := hw0; subst hw1; (try dsimp only))
              have hbf := HBX.out.trans (hbq.mono HBX.out.size)
              have HBf := Lib.hid hbf
              clear T1 U1 x0 x1 x2 x3 x4 x5 x6 x7 x8 e0 e1 e2 HTr HCr HUr
              have HTr := blw HT hbf
              have HCr := blw HC hbf
              have HUr := blw HU hbf
              have HBr := btr HB5 hbf
              clear hbq hbf HBX
              go_wp2_with fail
              have T1 := after_cell HTr.out.lt (HTr.out.cell 1)
              have U1 := after_cell HUr.out.lt (HUr.out.cell 1)
              obtain ⟨x0, x1, x2, x3, x4, x5, x6, x7, x8⟩ := oa9 HCr
              (refine wp_region_after (by kernel_rfl) (by kernel_rfl) ?_; (repeat (go_big_quiet_step (fail))); refine wpQuiet_nil ?_; intro wq hw0; obtain ⟨⟨wq0, hbq⟩, hw1⟩ := hw0; subst hw1; (try dsimp only))
              have hbf := HBf.out.trans (hbq.mono HBf.out.size)
              clear T1 U1 x0 x1 x2 x3 x4 x5 x6 x7 x8 HTr HCr HUr
              go_wp2
              go_roundw
              case rel => exact ⟨i + 1, by omega, by go_num, hbf⟩
              case measure => simp [intOf]; omega
          have h3b : (k == 3) = false := by rw [beq_eq_false_iff_ne]; exact h3
          by_cases h4 : k = 4
          · subst h4
            cases hbn : (s1.toList == qn.toList)
            · have hu : us[κ]? = some (qn, qk, qb) := HOR.out.elim (fun e => by have h9 := e.2; rw [h9] at hbn; simp at hbn) id
              have T1 := after_cell HTr.out.lt (HTr.out.cell 1)
              have U1 := after_cell HUr.out.lt (HUr.out.cell 1)
              obtain ⟨x0, x1, x2, x3, x4, x5, x6, x7, x8⟩ := oa9 HCr
              have e0 : ∀ p : After wr, p.w.cell? (ad.add (i * 3)) = some (.string qn) := after_cell (by rw [add_block]; exact (Nat.lt_of_lt_of_le EB.out HBr.out.size)) ((HBr.out.cell (p := ad.add (i * 3)) (by rw [add_block]; exact EB.out)).trans E0.out)
              have e1 : ∀ p : After wr, p.w.cell? ⟨(ad.add (i * 3)).block, (ad.add (i * 3)).off + 1, none⟩ = some (.int .i64 qk) := after_cell (by show (ad.add (i * 3)).block < _; rw [add_block]; exact (Nat.lt_of_lt_of_le EB.out HBr.out.size)) ((HBr.out.cell (p := ⟨(ad.add (i * 3)).block, (ad.add (i * 3)).off + 1, none⟩) (by show (ad.add (i * 3)).block < _; rw [add_block]; exact EB.out)).trans E1.out)
              have e2 : ∀ p : After wr, p.w.cell? ⟨(ad.add (i * 3)).block, (ad.add (i * 3)).off + 2, none⟩ = some (.bool qb) := after_cell (by show (ad.add (i * 3)).block < _; rw [add_block]; exact (Nat.lt_of_lt_of_le EB.out HBr.out.size)) ((HBr.out.cell (p := ⟨(ad.add (i * 3)).block, (ad.add (i * 3)).off + 2, none⟩) (by show (ad.add (i * 3)).block < _; rw [add_block]; exact EB.out)).trans E2.out)
              (refine wp_region_after (by kernel_rfl) (by kernel_rfl) ?_; (repeat (go_big_quiet_step (fail))); refine wpQuiet_nil ?_; intro wq hw0; obtain ⟨⟨wq0, hbq⟩, hw1⟩ := hw0; subst hw1; (try dsimp only))
              have hbf := HBX.out.trans (hbq.mono HBX.out.size)
              have HBf := Lib.hid hbf
              clear T1 U1 x0 x1 x2 x3 x4 x5 x6 x7 x8 e0 e1 e2 HTr HCr HUr
              have HTr := blw HT hbf
              have HCr := blw HC hbf
              have HUr := blw HU hbf
              have HBr := btr HB5 hbf
              clear hbq hbf HBX
              go_wp2_with fail
              obtain ⟨A9, c9, hv9, _, hcc⟩ := HK5.out
              injection hv9 with e1 e2 e3
              subst e1 e3
              obtain ⟨bd, rfl, _, hab, a0, a1, a2⟩ := hcc κ _ hu
              dsimp only at a0 a1 a2
              have FB := Lib.hid hab
              have F0 := Lib.hid a0
              have F1 := Lib.hid a1
              have F2 := Lib.hid a2
              clear hcc hab a0 a1 a2
              have hneq : ∀ V : World, (binOp .neq 36 (.agg #[.string qn, .int .i64 qk, .bool qb]) (.agg #[.string qn, .int .i64 qk, .bool qb])).run Try.prog V = .ok (.bool false) V := fun V => by rw [neq_col, eqC_self]; rfl
              have T1 := after_cell HTr.out.lt (HTr.out.cell 1)
              have U1 := after_cell HUr.out.lt (HUr.out.cell 1)
              obtain ⟨x0, x1, x2, x3, x4, x5, x6, x7, x8⟩ := oa9 HCr
              have e0 : ∀ p : After wq, p.w.cell? (ad.add (i * 3)) = some (.string qn) := after_cell (by rw [add_block]; exact (Nat.lt_of_lt_of_le EB.out HBr.out.size)) ((HBr.out.cell (p := ad.add (i * 3)) (by rw [add_block]; exact EB.out)).trans E0.out)
              have e1 : ∀ p : After wq, p.w.cell? ⟨(ad.add (i * 3)).block, (ad.add (i * 3)).off + 1, none⟩ = some (.int .i64 qk) := after_cell (by show (ad.add (i * 3)).block < _; rw [add_block]; exact (Nat.lt_of_lt_of_le EB.out HBr.out.size)) ((HBr.out.cell (p := ⟨(ad.add (i * 3)).block, (ad.add (i * 3)).off + 1, none⟩) (by show (ad.add (i * 3)).block < _; rw [add_block]; exact EB.out)).trans E1.out)
              have e2 : ∀ p : After wq, p.w.cell? ⟨(ad.add (i * 3)).block, (ad.add (i * 3)).off + 2, none⟩ = some (.bool qb) := after_cell (by show (ad.add (i * 3)).block < _; rw [add_block]; exact (Nat.lt_of_lt_of_le EB.out HBr.out.size)) ((HBr.out.cell (p := ⟨(ad.add (i * 3)).block, (ad.add (i * 3)).off + 2, none⟩) (by show (ad.add (i * 3)).block < _; rw [add_block]; exact EB.out)).trans E2.out)
              have f0 : ∀ p : After wq, p.w.cell? (bd.add (κ * 3)) = some (.string qn) := after_cell (by rw [add_block]; exact (Nat.lt_of_lt_of_le FB.out HBf.out.size)) ((HBf.out.cell (p := bd.add (κ * 3)) (by rw [add_block]; exact FB.out)).trans F0.out)
              have f1 : ∀ p : After wq, p.w.cell? ⟨(bd.add (κ * 3)).block, (bd.add (κ * 3)).off + 1, none⟩ = some (.int .i64 qk) := after_cell (by show (bd.add (κ * 3)).block < _; rw [add_block]; exact (Nat.lt_of_lt_of_le FB.out HBf.out.size)) ((HBf.out.cell (p := ⟨(bd.add (κ * 3)).block, (bd.add (κ * 3)).off + 1, none⟩) (by show (bd.add (κ * 3)).block < _; rw [add_block]; exact FB.out)).trans F1.out)
              have f2 : ∀ p : After wq, p.w.cell? ⟨(bd.add (κ * 3)).block, (bd.add (κ * 3)).off + 2, none⟩ = some (.bool qb) := after_cell (by show (bd.add (κ * 3)).block < _; rw [add_block]; exact (Nat.lt_of_lt_of_le FB.out HBf.out.size)) ((HBf.out.cell (p := ⟨(bd.add (κ * 3)).block, (bd.add (κ * 3)).off + 2, none⟩) (by show (bd.add (κ * 3)).block < _; rw [add_block]; exact FB.out)).trans F2.out)
              (refine wp_region_after (by kernel_rfl) (by kernel_rfl) ?_; (repeat (go_big_quiet_step (fail))); refine wpQuiet_nil ?_; intro wq hw0; obtain ⟨⟨wq0, hbq⟩, hw1⟩ := hw0; subst hw1; (try dsimp only))
              have hbf := HBf.out.trans (hbq.mono HBf.out.size)
              clear T1 U1 x0 x1 x2 x3 x4 x5 x6 x7 x8 e0 e1 e2 f0 f1 f2 hneq HTr HCr HUr
              go_wp2
              go_roundw
              case rel => exact ⟨i + 1, by omega, by go_num, hbf⟩
              case measure => simp [intOf]; omega
            · clear HOR
              have T1 := after_cell HTr.out.lt (HTr.out.cell 1)
              have U1 := after_cell HUr.out.lt (HUr.out.cell 1)
              obtain ⟨x0, x1, x2, x3, x4, x5, x6, x7, x8⟩ := oa9 HCr
              have e0 : ∀ p : After wr, p.w.cell? (ad.add (i * 3)) = some (.string qn) := after_cell (by rw [add_block]; exact (Nat.lt_of_lt_of_le EB.out HBr.out.size)) ((HBr.out.cell (p := ad.add (i * 3)) (by rw [add_block]; exact EB.out)).trans E0.out)
              have e1 : ∀ p : After wr, p.w.cell? ⟨(ad.add (i * 3)).block, (ad.add (i * 3)).off + 1, none⟩ = some (.int .i64 qk) := after_cell (by show (ad.add (i * 3)).block < _; rw [add_block]; exact (Nat.lt_of_lt_of_le EB.out HBr.out.size)) ((HBr.out.cell (p := ⟨(ad.add (i * 3)).block, (ad.add (i * 3)).off + 1, none⟩) (by show (ad.add (i * 3)).block < _; rw [add_block]; exact EB.out)).trans E1.out)
              have e2 : ∀ p : After wr, p.w.cell? ⟨(ad.add (i * 3)).block, (ad.add (i * 3)).off + 2, none⟩ = some (.bool qb) := after_cell (by show (ad.add (i * 3)).block < _; rw [add_block]; exact (Nat.lt_of_lt_of_le EB.out HBr.out.size)) ((HBr.out.cell (p := ⟨(ad.add (i * 3)).block, (ad.add (i * 3)).off + 2, none⟩) (by show (ad.add (i * 3)).block < _; rw [add_block]; exact EB.out)).trans E2.out)
              (refine wp_region_after (by kernel_rfl) (by kernel_rfl) ?_; (repeat (go_big_quiet_step (fail))); refine wpQuiet_nil ?_; intro wq hw0; obtain ⟨⟨wq0, hbq⟩, hw1⟩ := hw0; subst hw1; (try dsimp only))
              have hbf := HBX.out.trans (hbq.mono HBX.out.size)
              have HBf := Lib.hid hbf
              clear T1 U1 x0 x1 x2 x3 x4 x5 x6 x7 x8 e0 e1 e2 HTr HCr HUr
              have HTr := blw HT hbf
              have HCr := blw HC hbf
              have HUr := blw HU hbf
              have HBr := btr HB5 hbf
              clear hbq hbf HBX
              go_wp2_with fail
              have T1 := after_cell HTr.out.lt (HTr.out.cell 1)
              have U1 := after_cell HUr.out.lt (HUr.out.cell 1)
              obtain ⟨x0, x1, x2, x3, x4, x5, x6, x7, x8⟩ := oa9 HCr
              (refine wp_region_after (by kernel_rfl) (by kernel_rfl) ?_; (repeat (go_big_quiet_step (fail))); refine wpQuiet_nil ?_; intro wq hw0; obtain ⟨⟨wq0, hbq⟩, hw1⟩ := hw0; subst hw1; (try dsimp only))
              have hbf := HBf.out.trans (hbq.mono HBf.out.size)
              clear T1 U1 x0 x1 x2 x3 x4 x5 x6 x7 x8 HTr HCr HUr
              go_wp2
              go_roundw
              case rel => exact ⟨i + 1, by omega, by go_num, hbf⟩
              case measure => simp [intOf]; omega
          have h4b : (k == 4) = false := by rw [beq_eq_false_iff_ne]; exact h4
          have hu : us[κ]? = some (qn, qk, qb) := HOR.out.elim (fun e => absurd e.1 (fun e => e.elim h3 h4)) id
          clear h3 h4
          have T1 := after_cell HTr.out.lt (HTr.out.cell 1)
          have U1 := after_cell HUr.out.lt (HUr.out.cell 1)
          obtain ⟨x0, x1, x2, x3, x4, x5, x6, x7, x8⟩ := oa9 HCr
          have e0 : ∀ p : After wr, p.w.cell? (ad.add (i * 3)) = some (.string qn) := after_cell (by rw [add_block]; exact (Nat.lt_of_lt_of_le EB.out HBr.out.size)) ((HBr.out.cell (p := ad.add (i * 3)) (by rw [add_block]; exact EB.out)).trans E0.out)
          have e1 : ∀ p : After wr, p.w.cell? ⟨(ad.add (i * 3)).block, (ad.add (i * 3)).off + 1, none⟩ = some (.int .i64 qk) := after_cell (by show (ad.add (i * 3)).block < _; rw [add_block]; exact (Nat.lt_of_lt_of_le EB.out HBr.out.size)) ((HBr.out.cell (p := ⟨(ad.add (i * 3)).block, (ad.add (i * 3)).off + 1, none⟩) (by show (ad.add (i * 3)).block < _; rw [add_block]; exact EB.out)).trans E1.out)
          have e2 : ∀ p : After wr, p.w.cell? ⟨(ad.add (i * 3)).block, (ad.add (i * 3)).off + 2, none⟩ = some (.bool qb) := after_cell (by show (ad.add (i * 3)).block < _; rw [add_block]; exact (Nat.lt_of_lt_of_le EB.out HBr.out.size)) ((HBr.out.cell (p := ⟨(ad.add (i * 3)).block, (ad.add (i * 3)).off + 2, none⟩) (by show (ad.add (i * 3)).block < _; rw [add_block]; exact EB.out)).trans E2.out)
          (refine wp_region_after (by kernel_rfl) (by kernel_rfl) ?_; (repeat (go_big_quiet_step (fail))); refine wpQuiet_nil ?_; intro wq hw0; obtain ⟨⟨wq0, hbq⟩, hw1⟩ := hw0; subst hw1; (try dsimp only))
          have hbf := HBX.out.trans (hbq.mono HBX.out.size)
          have HBf := Lib.hid hbf
          clear T1 U1 x0 x1 x2 x3 x4 x5 x6 x7 x8 e0 e1 e2 HTr HCr HUr
          have HTr := blw HT hbf
          have HCr := blw HC hbf
          have HUr := blw HU hbf
          have HBr := btr HB5 hbf
          clear hbq hbf HBX
          go_wp2_with fail
          obtain ⟨A9, c9, hv9, _, hcc⟩ := HK5.out
          injection hv9 with e1 e2 e3
          subst e1 e3
          obtain ⟨bd, rfl, _, hab, a0, a1, a2⟩ := hcc κ _ hu
          dsimp only at a0 a1 a2
          have FB := Lib.hid hab
          have F0 := Lib.hid a0
          have F1 := Lib.hid a1
          have F2 := Lib.hid a2
          clear hcc hab a0 a1 a2
          have hneq : ∀ V : World, (binOp .neq 36 (.agg #[.string qn, .int .i64 qk, .bool qb]) (.agg #[.string qn, .int .i64 qk, .bool qb])).run Try.prog V = .ok (.bool false) V := fun V => by rw [neq_col, eqC_self]; rfl
          have T1 := after_cell HTr.out.lt (HTr.out.cell 1)
          have U1 := after_cell HUr.out.lt (HUr.out.cell 1)
          obtain ⟨x0, x1, x2, x3, x4, x5, x6, x7, x8⟩ := oa9 HCr
          have e0 : ∀ p : After wq, p.w.cell? (ad.add (i * 3)) = some (.string qn) := after_cell (by rw [add_block]; exact (Nat.lt_of_lt_of_le EB.out HBr.out.size)) ((HBr.out.cell (p := ad.add (i * 3)) (by rw [add_block]; exact EB.out)).trans E0.out)
          have e1 : ∀ p : After wq, p.w.cell? ⟨(ad.add (i * 3)).block, (ad.add (i * 3)).off + 1, none⟩ = some (.int .i64 qk) := after_cell (by show (ad.add (i * 3)).block < _; rw [add_block]; exact (Nat.lt_of_lt_of_le EB.out HBr.out.size)) ((HBr.out.cell (p := ⟨(ad.add (i * 3)).block, (ad.add (i * 3)).off + 1, none⟩) (by show (ad.add (i * 3)).block < _; rw [add_block]; exact EB.out)).trans E1.out)
          have e2 : ∀ p : After wq, p.w.cell? ⟨(ad.add (i * 3)).block, (ad.add (i * 3)).off + 2, none⟩ = some (.bool qb) := after_cell (by show (ad.add (i * 3)).block < _; rw [add_block]; exact (Nat.lt_of_lt_of_le EB.out HBr.out.size)) ((HBr.out.cell (p := ⟨(ad.add (i * 3)).block, (ad.add (i * 3)).off + 2, none⟩) (by show (ad.add (i * 3)).block < _; rw [add_block]; exact EB.out)).trans E2.out)
          have f0 : ∀ p : After wq, p.w.cell? (bd.add (κ * 3)) = some (.string qn) := after_cell (by rw [add_block]; exact (Nat.lt_of_lt_of_le FB.out HBf.out.size)) ((HBf.out.cell (p := bd.add (κ * 3)) (by rw [add_block]; exact FB.out)).trans F0.out)
          have f1 : ∀ p : After wq, p.w.cell? ⟨(bd.add (κ * 3)).block, (bd.add (κ * 3)).off + 1, none⟩ = some (.int .i64 qk) := after_cell (by show (bd.add (κ * 3)).block < _; rw [add_block]; exact (Nat.lt_of_lt_of_le FB.out HBf.out.size)) ((HBf.out.cell (p := ⟨(bd.add (κ * 3)).block, (bd.add (κ * 3)).off + 1, none⟩) (by show (bd.add (κ * 3)).block < _; rw [add_block]; exact FB.out)).trans F1.out)
          have f2 : ∀ p : After wq, p.w.cell? ⟨(bd.add (κ * 3)).block, (bd.add (κ * 3)).off + 2, none⟩ = some (.bool qb) := after_cell (by show (bd.add (κ * 3)).block < _; rw [add_block]; exact (Nat.lt_of_lt_of_le FB.out HBf.out.size)) ((HBf.out.cell (p := ⟨(bd.add (κ * 3)).block, (bd.add (κ * 3)).off + 2, none⟩) (by show (bd.add (κ * 3)).block < _; rw [add_block]; exact FB.out)).trans F2.out)
          (refine wp_region_after (by kernel_rfl) (by kernel_rfl) ?_; (repeat (go_big_quiet_step (fail))); refine wpQuiet_nil ?_; intro wq hw0; obtain ⟨⟨wq0, hbq⟩, hw1⟩ := hw0; subst hw1; (try dsimp only))
          have hbf := HBf.out.trans (hbq.mono HBf.out.size)
          clear T1 U1 x0 x1 x2 x3 x4 x5 x6 x7 x8 e0 e1 e2 f0 f1 f2 hneq HTr HCr HUr
          go_wp2
          go_roundw
          case rel => exact ⟨i + 1, by omega, by go_num, hbf⟩
          case measure => simp [intOf]; omega
end Go.Proofs.Yteihjneeiojgaaa
