import Derived.Test.YteihjneeiojgaaaGreatSEoR
import Derived.Test.YteihjneeiojgaaaGreatMC
import Derived.WalkKit
import Derived.WalkSpells
import Derived.WalkLawsBesides
import Derived.Deep.QuietTactic
import Derived.BigQuiet
import Derived.Handy
import Derived.Lib.Hide
import Derived.Test.YteihjneeiojgaaaGreatSEoF
import Derived.Test.YteihjneeiojgaaaGreatSExJh
import Derived.Test.YteihjneeiojgaaaGreatSEoQ
import Derived.Test.YteihjneeiojgaaaGreatSEoO
/-
  Changes opened. Conditions: none.
-/
namespace Go.Proofs.YteihjneeiojgaaaGreat
set_option maxRecDepth 100000
set_option linter.unusedVariables false
set_option linter.unusedSimpArgs false
open Go.ChangeShapes Go.WideShapes Go.ChangeAt Go.RowKit Go.Joins Go.Deep

theorem cellsChg : Tryz.prog.cellsOf 33 = 9 := by kernel_rfl
theorem cellsIntC : Tryz.prog.cellsOf 3 = 1 := by kernel_rfl
theorem cellsStrC : Tryz.prog.cellsOf 9 = 1 := by kernel_rfl
theorem cellsBoolC : Tryz.prog.cellsOf 4 = 1 := by kernel_rfl
section
variable {H : Type} {enc : TypeId × Value → H} {W : World} {base : Nat}
set_option maxRecDepth 100000 in
theorem open_chg {v : Value} {d : DataW H} {p : List MemPlace} (hv : Value.okWide Tryz.prog W .any base 33 v) (h : DataW.Trod enc Tryz.prog W 0 (fun _ => true) true 33 v d p) : ∃ g : Chg, v = chV g := by
  obtain ⟨cs, rfl, hsz⟩ := okWide_struct Tryz.underlying33 hv
  rw [cellsChg] at hsz
  obtain ⟨l⟩ := cs
  match l, hsz with
  | [c0, c1, c2, c3, c4, c5, c6, c7, c8], _ =>
    obtain ⟨fuel, hf⟩ := h
    obtain ⟨xs, n', _, hxy, _, hxl, hfl⟩ := DataW.trod_struct Tryz.underlying33 hf
    match xs, hxl with
    | [y0, y1, y2, y3, y4], _ =>
      have g0 := hfl 0 _ rfl
      have g1 := hfl 1 _ rfl
      have g2 := hfl 2 _ rfl
      have g3 := hfl 3 _ rfl
      have g4 := hfl 4 _ rfl
      simp [cellsIntC, cellsStrC, cellsCol, cellsVal, Value.cells] at g0 g1 g2 g3 g4
      obtain ⟨a0, e0, _⟩ := DataW.trod_int Tryz.underlying3 g0
      obtain ⟨a1, e1, _⟩ := DataW.trod_string Tryz.underlying9 g1
      obtain ⟨a2, e2, _⟩ := DataW.trod_string Tryz.underlying9 g2
      obtain ⟨zs, n2, _, _, hzc, hzl, hgl⟩ := DataW.trod_struct Tryz.underlying29 g3
      obtain ⟨us, n3, _, _, huc, hul, hul2⟩ := DataW.trod_struct Tryz.underlying31 g4
      match zs, hzl, us, hul with
      | [z0, z1, z2], _, [u0, u1, u2], _ =>
        have k0 := hgl 0 _ rfl
        have k1 := hgl 1 _ rfl
        have k2 := hgl 2 _ rfl
        have m0 := hul2 0 _ rfl
        have m1 := hul2 1 _ rfl
        have m2 := hul2 2 _ rfl
        simp [cellsIntC, cellsStrC, cellsBoolC] at k0 k1 k2 m0 m1 m2
        obtain ⟨b0, f0, _⟩ := DataW.trod_string Tryz.underlying9 k0
        obtain ⟨b1, f1, _⟩ := DataW.trod_int Tryz.underlying3 k1
        obtain ⟨b2, f2, _⟩ := DataW.trod_bool Tryz.underlying4 k2
        obtain ⟨q0, r0, _⟩ := DataW.trod_int Tryz.underlying3 m0
        obtain ⟨q1, r1, _⟩ := DataW.trod_int Tryz.underlying3 m1
        obtain ⟨q2, r2, _⟩ := DataW.trod_string Tryz.underlying9 m2
        simp at e0 e1 e2 f0 f1 f2 r0 r1 r2
        subst e0 e1 e2 f0 f1 f2 r0 r1 r2
        exact ⟨⟨a0, a1, a2, (b0, b1, b2), (q0, q1, q2)⟩, rfl⟩
end
end Go.Proofs.YteihjneeiojgaaaGreat
/-
  The reference's has, plain, add: what they answer. Conditions: lengths.
-/
namespace Go.Proofs.YteihjneeiojgaaaGreat
set_option maxRecDepth 100000
set_option linter.unusedVariables false
set_option linter.unusedSimpArgs false
open Go.RowKit

theorem take_not {zs : List Int} {k : Nat} {n z : Int} (h : zs[k]? = some z) (hn : n ∉ zs.take k) (hz : z ≠ n) : n ∉ zs.take (k + 1) := by
  rw [List.take_add_one, h]
  simp only [Option.toList_some, List.mem_append, List.mem_singleton, not_or]
  exact ⟨hn, fun e => hz e.symm⟩
set_option maxRecDepth 100000 in
set_option maxHeartbeats 6400000 in
theorem rHas_any (zs : List Int) (n : Int) (v : Value) (w : World) (L : Nat) (hv : RdI w L w.heap.size v zs) :
    Calls Tryz.prog 53 #[v, .int .i64 n] w fun e w' => e = .returned (.bool (decide (n ∈ zs))) ∧ Below w.heap.size w w' := by
  obtain ⟨A, c, rfl, hl1, hc1⟩ := hv
  have HC := Lib.hid hc1
  clear hc1
  go_enter Tryz.func53, Tryz.ntmps53
  go_wp2
  go_loopw [5] (fun i wr => ∃ k : Nat, k ≤ zs.length ∧ i = .int .i64 k ∧ Hid (n ∉ zs.take k) ∧ Below w.heap.size w wr) (fun i _ => zs.length - (intOf i).toNat)
  case atStart => exact ⟨0, Nat.zero_le _, rfl, Lib.hid (by simp), Below.refl _ _⟩
  case round =>
    obtain ⟨k, hk, rfl, HR, hbr⟩ := hrel
    by_cases hlt : k < zs.length
    · have hki : (k : Int) < zs.length := by omega
      have hz := List.getElem?_eq_getElem hlt
      obtain ⟨ad, rfl, _, hab, a0⟩ := HC.out k _ hz
      have hm := List.getElem_mem hlt
      generalize zs[k] = z at *
      have e0 := (hbr.cell (p := ad.add k) (by rw [add_block]; exact hab)).trans a0
      clear a0
      by_cases he : z = n
      · subst he
        have HF := Lib.hid (show decide (z ∈ zs) = true from decide_eq_true hm)
        clear hm hz
        go_wp2
        go_ret
        exact ⟨(by rw [HF.out]; try rfl), hbr⟩
      · have hzb : (z == n) = false := by rw [beq_eq_false_iff_ne]; exact he
        have HF := Lib.hid (take_not hz HR.out he)
        clear hm hz he
        go_wp2
        go_roundw
        case rel => exact ⟨k + 1, by omega, by go_num, HF, hbr⟩
        case measure => simp [intOf]; omega
    · have hki : ¬ (k : Int) < zs.length := by omega
      have HF := Lib.hid (show decide (n ∈ zs) = false from decide_eq_false (by have h := HR.out; rwa [List.take_of_length_le (by omega)] at h))
      go_wp2
      go_ret
      exact ⟨(by rw [HF.out]; try rfl), hbr⟩
set_option maxRecDepth 100000 in
set_option maxHeartbeats 6400000 in
theorem rPlain_any (h : Chg) (w : World) : Calls Tryz.prog 23 #[chV h] w fun e w' => e = .returned (chV (plnC h)) ∧ Below w.heap.size w w' := by
  obtain ⟨k, s1, s2, ⟨s3, ck, cb⟩, ⟨p1, p2, p3⟩⟩ := h
  unfold plnC chV chA zC zP
  dsimp only
  by_cases h1 : k = 1
  · subst h1
    rw [if_pos rfl]
    dsimp only
    obtain ⟨HP, -, -⟩ := bx2 w 33 #[.int .i64 1, .string s1, .string s2, .string s3, .int .i64 ck, .bool cb, .int .i64 p1, .int .i64 p2, .string p3] 33 #[.int .i64 0, .string ⟨#[]⟩, .string ⟨#[]⟩, .string ⟨#[]⟩, .int .i64 0, .bool false, .int .i64 0, .int .i64 0, .string ⟨#[]⟩]
    obtain ⟨c0, c1, c2, c3, c4, c5, c6, c7, c8⟩ := oc9 HP
    obtain ⟨-, HO1, HB⟩ := bx2 w 33 #[.int .i64 1, .string s1, .string s2, .string s3, .int .i64 ck, .bool cb, .int .i64 p1, .int .i64 p2, .string p3] 33 #[.int .i64 1, .string ⟨#[]⟩, .string ⟨#[]⟩, .string s3, .int .i64 ck, .bool cb, .int .i64 p1, .int .i64 p2, .string p3]
    go_enter Tryz.func23, Tryz.ntmps23
    go_wp2
    (try simp only [Exit.inBlock, Exit.then]); refine bodyPost_ret_by (results_cell_row1 (by rfl) _ _ (w.heap.size + 1) _ (by rfl) (load_chg HO1.out)) ?_ ?_; (focus rfl); (try dsimp only)
    exact ⟨rfl, HB.out⟩
  · rw [if_neg h1]
    have h1b : (k == 1) = false := by rw [beq_eq_false_iff_ne]; exact h1
    clear h1
    by_cases h3 : k = 3
    · subst h3
      rw [if_pos rfl]
      dsimp only
      obtain ⟨HP, -, -⟩ := bx2 w 33 #[.int .i64 3, .string s1, .string s2, .string s3, .int .i64 ck, .bool cb, .int .i64 p1, .int .i64 p2, .string p3] 33 #[.int .i64 0, .string ⟨#[]⟩, .string ⟨#[]⟩, .string ⟨#[]⟩, .int .i64 0, .bool false, .int .i64 0, .int .i64 0, .string ⟨#[]⟩]
      obtain ⟨c0, c1, c2, c3, c4, c5, c6, c7, c8⟩ := oc9 HP
      obtain ⟨-, HO1, HB⟩ := bx2 w 33 #[.int .i64 3, .string s1, .string s2, .string s3, .int .i64 ck, .bool cb, .int .i64 p1, .int .i64 p2, .string p3] 33 #[.int .i64 3, .string s1, .string s2, .string ⟨#[]⟩, .int .i64 0, .bool false, .int .i64 0, .int .i64 0, .string ⟨#[]⟩]
      go_enter Tryz.func23, Tryz.ntmps23
      go_wp2
      (try simp only [Exit.inBlock, Exit.then]); refine bodyPost_ret_by (results_cell_row1 (by rfl) _ _ (w.heap.size + 1) _ (by rfl) (load_chg HO1.out)) ?_ ?_; (focus rfl); (try dsimp only)
      exact ⟨rfl, HB.out⟩
    · rw [if_neg h3]
      have h3b : (k == 3) = false := by rw [beq_eq_false_iff_ne]; exact h3
      clear h3
      dsimp only
      obtain ⟨HP, -, -⟩ := bx2 w 33 #[.int .i64 k, .string s1, .string s2, .string s3, .int .i64 ck, .bool cb, .int .i64 p1, .int .i64 p2, .string p3] 33 #[.int .i64 0, .string ⟨#[]⟩, .string ⟨#[]⟩, .string ⟨#[]⟩, .int .i64 0, .bool false, .int .i64 0, .int .i64 0, .string ⟨#[]⟩]
      obtain ⟨c0, c1, c2, c3, c4, c5, c6, c7, c8⟩ := oc9 HP
      obtain ⟨-, HO1, HB⟩ := bx2 w 33 #[.int .i64 k, .string s1, .string s2, .string s3, .int .i64 ck, .bool cb, .int .i64 p1, .int .i64 p2, .string p3] 33 #[.int .i64 k, .string s1, .string ⟨#[]⟩, .string ⟨#[]⟩, .int .i64 0, .bool false, .int .i64 0, .int .i64 0, .string ⟨#[]⟩]
      go_enter Tryz.func23, Tryz.ntmps23
      go_wp2
      (try simp only [Exit.inBlock, Exit.then]); refine bodyPost_ret_by (results_cell_row1 (by rfl) _ _ (w.heap.size + 1) _ (by rfl) (load_chg HO1.out)) ?_ ?_; (focus rfl); (try dsimp only)
      exact ⟨rfl, HB.out⟩
theorem accS_one (c : Cl) (p : Vl) : accS [c] [p] = if okP p = false then 8 else if p.1 = 0 then (if c.2.2 = false then 12 else 0) else if p.1 ≠ c.2.1 then 7 else 0 := by
  unfold accS
  rw [if_neg (fun h => h rfl)]
  rfl
set_option maxRecDepth 100000 in
set_option maxHeartbeats 6400000 in
theorem rAdd_any (nm vc vk vf vx : Value) (cs : List Cl) (h : Chg) (w : World) (L : Nat) (hc : RdK w L w.heap.size vc cs) :
    Calls Tryz.prog 24 #[.agg #[nm, vc, vk, vf, vx], chV h] w fun e w' => e = .returned (.int .i64 (addE cs h)) ∧ Below w.heap.size w w' := by
  have HF := Lib.hid (fun (W : World) (hb : Below w.heap.size w W) => rFind_any nm vc vk vf vx cs h.c.1 W L (hc.step hb (Nat.le_refl _)))
  have HN := Lib.hid (fun (W : World) => rName_any h.c.1 W)
  have HV := Lib.hid (fun (W : World) => rValid7_any h.p.1 h.p.2.1 h.p.2.2 W)
  have hacc := accS_one h.c h.p
  obtain ⟨k, s1, s2, ⟨s3, ck, cb⟩, ⟨p1, p2, p3⟩⟩ := h
  unfold addE chV chA
  dsimp only at *
  rw [hacc]
  clear hacc
  unfold valV at HV
  dsimp only at HV
  generalize okP (p1, p2, p3) = bo at *
  obtain ⟨A0, c0', e0⟩ := shK hc
  subst e0
  generalize nameS s3.data.toList = b at *
  generalize findK s3 0 cs = f at *
  obtain ⟨HO0, HO1, HB⟩ := bx2 w 27 #[nm, .slice A0 cs.length c0', vk, vf, vx] 33 #[.int .i64 k, .string s1, .string s2, .string s3, .int .i64 ck, .bool cb, .int .i64 p1, .int .i64 p2, .string p3]
  obtain ⟨d0, d1, d2, d3, d4⟩ := Own.five HO0.out
  obtain ⟨x0, x1, x2, x3, x4, x5, x6, x7, x8⟩ := oc9 HO1
  clear hc
  by_cases h12 : 12 ≤ cs.length
  · rw [if_pos h12]
    have h12i : (12 : Int) ≤ cs.length := by omega
    clear h12
    go_enter Tryz.func24, Tryz.ntmps24
    go_wp2
    go_ret
    exact ⟨rfl, HB.out⟩
  rw [if_neg h12]
  have h12i : ¬ (12 : Int) ≤ cs.length := by omega
  clear h12
  go_enter Tryz.func24, Tryz.ntmps24
  go_wp2_with fail
  with_reducible refine (HN.out _).mono ?_
  rintro e w2 ⟨rfl, hb⟩
  replace HO0 := blw HO0 hb
  replace HO1 := blw HO1 hb
  replace HB := btr HB hb
  clear hb d0 d1 d2 d3 d4 x0 x1 x2 x3 x4 x5 x6 x7 x8 h12i
  cases b
  · go_wp2
    go_ret
    exact ⟨rfl, HB.out⟩
  obtain ⟨d0, d1, d2, d3, d4⟩ := Own.five HO0.out
  obtain ⟨x0, x1, x2, x3, x4, x5, x6, x7, x8⟩ := oc9 HO1
  by_cases hk : ck < 1 ∨ 3 < ck
  · have hkk := Lib.hid hk
    rcases hk with hk | hk
    · go_wp2
      go_ret
      exact ⟨by simp [hkk.out], HB.out⟩
    · have hk1 : ¬ ck < 1 := by omega
      go_wp2
      go_ret
      exact ⟨by simp [hkk.out], HB.out⟩
  have hkk := Lib.hid hk
  have hk1 : ¬ ck < 1 := by omega
  have hk3 : ¬ 3 < ck := by omega
  clear hk
  go_wp2_with fail
  with_reducible refine (HF.out _ HB.out).mono ?_
  rintro e w3 ⟨rfl, hb⟩
  replace HO0 := blw HO0 hb
  replace HO1 := blw HO1 hb
  replace HB := btr HB hb
  clear hb d0 d1 d2 d3 d4 x0 x1 x2 x3 x4 x5 x6 x7 x8
  obtain ⟨x0, x1, x2, x3, x4, x5, x6, x7, x8⟩ := oc9 HO1
  by_cases hf : 0 ≤ f
  · go_wp2
    go_ret
    exact ⟨by simp [hkk.out, hf], HB.out⟩
  go_wp2_with fail
  with_reducible refine (HV.out _).mono ?_
  rintro e w4 ⟨rfl, hb⟩
  replace HO1 := blw HO1 hb
  replace HB := btr HB hb
  clear hb x0 x1 x2 x3 x4 x5 x6 x7 x8 hk1 hk3
  have HFH := Lib.hid hf
  clear hf
  cases bo
  · go_wp2
    go_ret
    exact ⟨by simp [hkk.out, HFH.out], HB.out⟩
  obtain ⟨x0, x1, x2, x3, x4, x5, x6, x7, x8⟩ := oc9 HO1
  by_cases hp : p1 = 0
  · subst hp
    cases cb
    · go_wp2
      go_ret
      exact ⟨by simp [hkk.out, HFH.out], HB.out⟩
    · go_wp2
      go_ret
      exact ⟨by simp [hkk.out, HFH.out], HB.out⟩
  · have hpb : (p1 == 0) = false := by rw [beq_eq_false_iff_ne]; exact hp
    by_cases hq : p1 = ck
    · subst hq
      have hHP := Lib.hid hp
      clear hp
      go_wp2
      go_ret
      exact ⟨by simp [hkk.out, HFH.out, hHP.out], HB.out⟩
    · have hqb : (p1 == ck) = false := by rw [beq_eq_false_iff_ne]; exact hq
      have hHP := Lib.hid hp
      have hHQ := Lib.hid hq
      clear hp hq
      go_wp2
      go_ret
      exact ⟨by simp [hkk.out, HFH.out, hHP.out, hHQ.out], HB.out⟩
end Go.Proofs.YteihjneeiojgaaaGreat
/-
  The reference's used: whether a column is named by the key, a foreign key or a check. Conditions: lengths.
-/
namespace Go.Proofs.YteihjneeiojgaaaGreat
set_option maxRecDepth 100000
set_option linter.unusedVariables false
set_option linter.unusedSimpArgs false
open Go.RowKit

theorem usd_iff (i : Int) (zs : List Int) (fs : List Fk) (d : Nat) (es : List Ex) : i ∈ usdL zs fs d es ↔ (i ∈ zs ∨ (∃ f ∈ fs, i ∈ f.1)) ∨ ∃ e ∈ es, i ∈ refE d e := by
  unfold usdL
  simp only [List.mem_append, List.mem_flatMap, refE_eq]
theorem take_ex {α : Type} {P : α → Prop} {l : List α} {k : Nat} {a : α} (h : l[k]? = some a) (hn : ¬ ∃ x ∈ l.take k, P x) (ha : ¬ P a) : ¬ ∃ x ∈ l.take (k + 1), P x := by
  rw [List.take_add_one, h]
  rintro ⟨x, hx, hp⟩
  simp only [Option.toList_some, List.mem_append, List.mem_singleton] at hx
  exact hx.elim (fun hx => hn ⟨x, hx, hp⟩) (fun hx => ha (hx ▸ hp))
set_option maxRecDepth 100000 in
set_option maxHeartbeats 12800000 in
theorem rUsed_any (nm vc vk vf vx : Value) (zs : List Int) (fs : List Fk) (es : List Ex) (d : Nat) (n : Int) (w : World) (L2 L3 L4 : Nat) (hk : RdI w L2 w.heap.size vk zs) (hf : RdF w L3 w.heap.size vf fs) (he : RdE w L4 w.heap.size (d + 1) vx es) (le1 : ∀ e ∈ es, (colE d e).length ≤ 1099511627775) :
    Calls Tryz.prog 27 #[.agg #[nm, vc, vk, vf, vx], .int .i64 n] w fun e w' => e = .returned (.bool (decide (n ∈ usdL zs fs d es))) ∧ Below w.heap.size w w' := by
  have HK0 := Lib.hid (fun (W : World) (hb : Below w.heap.size w W) => rHas_any zs n _ W L2 (hk.step hb (Nat.le_refl _)))
  obtain ⟨Ak, ck, ek, _⟩ := id hk
  obtain ⟨Af, cf, ef, _⟩ := id hf
  obtain ⟨Ae, ce, ee, _⟩ := id he
  subst ek ef ee
  obtain ⟨HO, HB⟩ := bx1 w 27 #[nm, vc, .slice Ak zs.length ck, .slice Af fs.length cf, .slice Ae es.length ce]
  have HC := Lib.hid (fun (W : World) (hb : Below w.heap.size w W) => hf.below hb)
  have HE := Lib.hid (fun (W : World) (hb : Below w.heap.size w W) => he.below hb)
  have HL2 := Lib.hid le1
  have HR := Lib.hid (show decide (n ∈ usdL zs fs d es) = true ↔ _ from decide_eq_true_iff.trans (usd_iff n zs fs d es))
  generalize decide (n ∈ usdL zs fs d es) = P at *
  clear hk hf he le1
  obtain ⟨d0, d1, d2, d3, d4⟩ := Own.five HO.out
  go_enter Tryz.func27, Tryz.ntmps27
  go_wp2_with fail
  with_reducible refine (HK0.out _ HB.out).mono ?_
  rintro e w1 ⟨rfl, hb⟩
  replace HO := blw HO hb
  replace HB := btr HB hb
  clear hb d0 d1 d2 d3 d4 HK0
  cases h0 : decide (n ∈ zs)
  rotate_left
  · have hp : P = true := HR.out.2 (.inl (.inl (of_decide_eq_true h0)))
    subst hp
    clear h0
    go_wp2
    go_ret
    exact ⟨rfl, HB.out⟩
  have HN0 := Lib.hid (of_decide_eq_false h0)
  clear h0
  obtain ⟨d0, d1, d2, d3, d4⟩ := Own.five HO.out
  go_wp2_with fail
  go_loopw [5] (fun i wr => ∃ k : Nat, k ≤ fs.length ∧ i = .int .i64 k ∧ Hid (¬ ∃ f ∈ fs.take k, n ∈ f.1) ∧ Hid (Own wr w.heap.size 27 #[nm, vc, .slice Ak zs.length ck, .slice Af fs.length cf, .slice Ae es.length ce]) ∧ Below w.heap.size w wr) (fun i _ => fs.length - (intOf i).toNat)
  case atStart => exact ⟨0, Nat.zero_le _, rfl, Lib.hid (by simp), HO, HB.out⟩
  case round =>
    clear HO HB d0 d1 d2 d3 d4
    obtain ⟨k, hk, rfl, HN, HO, hbr⟩ := hrel
    obtain ⟨d0, d1, d2, d3, d4⟩ := Own.five HO.out
    by_cases hlt : k < fs.length
    · have hki : (k : Int) < fs.length := by omega
      obtain ⟨A3, c3, hv3, _, hcc⟩ := HC.out wr hbr
      injection hv3 with e1 e2 e3
      subst e1 e3
      obtain ⟨ad, u, rfl, _, hab, a0, a1, hu⟩ := hcc k _ (List.getElem?_eq_getElem hlt)
      have HTF := Lib.hid (fun ha => take_ex (P := fun f : Fk => n ∈ f.1) (List.getElem?_eq_getElem hlt) HN.out ha)
      have HIN := Lib.hid (List.getElem_mem hlt)
      generalize fs[k] = q at *
      obtain ⟨ys, s⟩ := q
      dsimp only at a1 hu HTF
      have HH := Lib.hid (rHas_any ys n u wr L3 (hu.more hbr.size))
      obtain ⟨Au, cu, eu, _⟩ := id hu
      subst eu
      clear hcc hu a1
      go_wp2_with fail
      with_reducible refine HH.out.mono ?_
      rintro e w2 ⟨rfl, hb⟩
      replace HO := blw HO hb
      have HB := Lib.hid (hbr.trans (hb.mono hbr.size))
      clear hb d0 d1 d2 d3 d4 HH a0 hbr
      cases h0 : decide (n ∈ ys)
      rotate_left
      · have hp : P = true := HR.out.2 (.inl (.inr ⟨_, HIN.out, of_decide_eq_true h0⟩))
        subst hp
        clear h0
        go_wp2
        go_ret
        exact ⟨rfl, HB.out⟩
      · have HN2 := Lib.hid (HTF.out (of_decide_eq_false h0))
        clear h0 HTF HIN HN
        go_wp2
        go_roundw
        case rel => exact ⟨k + 1, by omega, by go_num, HN2, HO, HB.out⟩
        case measure => simp [intOf]; omega
    · have hki : ¬ (k : Int) < fs.length := by omega
      have HN1 := Lib.hid (show ¬ ∃ f ∈ fs, n ∈ f.1 by have h := HN.out; rwa [List.take_of_length_le (by omega)] at h)
      have HB := Lib.hid hbr
      clear HN hlt hk hbr
      go_wp2_with fail
      go_loopw [6] (fun i wr => ∃ k : Nat, k ≤ es.length ∧ i = .int .i64 k ∧ Hid (¬ ∃ e ∈ es.take k, n ∈ refE d e) ∧ Hid (Own wr w.heap.size 27 #[nm, vc, .slice Ak zs.length ck, .slice Af fs.length cf, .slice Ae es.length ce]) ∧ Below w.heap.size w wr) (fun i _ => es.length - (intOf i).toNat)
      case atStart => exact ⟨0, Nat.zero_le _, rfl, Lib.hid (by simp), HO, HB.out⟩
      case round =>
        clear HO HB d0 d1 d2 d3 d4 hki
        obtain ⟨k2, hk2, rfl, HN, HO, hbr⟩ := hrel
        obtain ⟨d0, d1, d2, d3, d4⟩ := Own.five HO.out
        by_cases hlt : k2 < es.length
        · have hki : (k2 : Int) < es.length := by omega
          obtain ⟨A3, c3, hv3, _, hcc⟩ := HE.out wr hbr
          injection hv3 with e1 e2 e3
          subst e1 e3
          obtain ⟨ad, u, rfl, _, hab, hxc, hxr⟩ := hcc k2 _ (List.getElem?_eq_getElem hlt)
          have HTF := Lib.hid (fun ha => take_ex (P := fun e : Ex => n ∈ refE d e) (List.getElem?_eq_getElem hlt) HN.out ha)
          have HIN := Lib.hid (List.getElem_mem hlt)
          have hcl := HL2.out _ (List.getElem_mem hlt)
          generalize es[k2] = y at *
          obtain ⟨A3, c3, rfl, hl3⟩ := hxr.slice
          have HCO := Lib.hid (rColumns_any d y (.slice A3 y.args.length c3) wr L4 (hxr.more hbr.size (Nat.le_refl _)) hcl)
          have HRL := Lib.hid (show (refE d y).length ≤ 1099511627775 from by rw [refE_eq]; exact Nat.le_trans (colS_len _) hcl)
          obtain ⟨x0, x1, x2, x3, x4, x5, x6⟩ := hxc
          obtain ⟨ys, hys⟩ : ∃ ys, ys = refE d y := ⟨_, rfl⟩
          rw [← hys] at HCO HRL
          have HYS := Lib.hid hys
          clear hys
          clear hcc hxr hcl
          unfold exV at *
          go_wp2_with fail
          with_reducible refine HCO.out.mono ?_
          rintro e w2 ⟨v, rfl, hv, hb⟩
          replace HO := blw HO hb
          have HB := Lib.hid (hbr.trans (hb.mono hbr.size))
          have hrd := rdI_own hv (by have := HRL.out; omega)
          obtain ⟨A5, c5, e5, _⟩ := id hrd
          subst e5
          have HH := Lib.hid (rHas_any ys n _ w2 _ hrd)
          clear hb hv hrd d0 d1 d2 d3 d4 HCO hbr x0 x1 x2 x3 x4 x5 x6
          go_wp2_with fail
          with_reducible refine HH.out.mono ?_
          rintro e w3 ⟨rfl, hb⟩
          replace HO := blw HO hb
          replace HB := btr HB hb
          clear hb HH
          cases h0 : decide (n ∈ ys)
          rotate_left
          · have hp : P = true := HR.out.2 (.inr ⟨_, HIN.out, HYS.out ▸ of_decide_eq_true h0⟩)
            subst hp
            clear h0
            go_wp2
            go_ret
            exact ⟨rfl, HB.out⟩
          · have HN2 := Lib.hid (HTF.out (show ¬ n ∈ refE d y from HYS.out ▸ of_decide_eq_false h0))
            clear h0 HTF HIN HN
            go_wp2
            go_roundw
            case rel => exact ⟨k2 + 1, by omega, by go_num, HN2, HO, HB.out⟩
            case measure => simp [intOf]; omega
        · have hki : ¬ (k2 : Int) < es.length := by omega
          have hp : P = false := by
            cases hP : P
            · rfl
            · exact absurd (HR.out.1 hP) (fun h => h.elim (fun h => h.elim HN0.out HN1.out) (by have h := HN.out; rwa [List.take_of_length_le (by omega)] at h))
          subst hp
          go_wp2
          go_ret
          exact ⟨rfl, hbr⟩
end Go.Proofs.YteihjneeiojgaaaGreat
/-
  The reference's Check of evolve: the error of a change of a definition. Conditions: lengths.
-/
namespace Go.Proofs.YteihjneeiojgaaaGreat
set_option maxRecDepth 100000
set_option linter.unusedVariables false
set_option linter.unusedSimpArgs false
open Go.RowKit

set_option maxRecDepth 100000 in
set_option maxHeartbeats 25600000 in
theorem rEvCheck_any (nm : ByteArray) (vc vk vf vx : Value) (cs : List Cl) (zs : List Int) (fs : List Fk) (d : Nat) (es : List Ex) (h : Chg) (w : World) (L : Nat) (ht : RdT w L w.heap.size vc vk vf vx cs zs fs d es) (hlen : cs.length ≤ 1099511627776) (hd : d ≤ 9223372036854775000) (le1 : ∀ e ∈ es, (colE d e).length ≤ 1099511627775) :
    Calls Tryz.prog 9 #[.agg #[.string nm, vc, vk, vf, vx], chV h] w fun e w' => e = .returned (.int .i64 (evoE nm.data.toList cs zs fs d es h)) ∧ Below w.heap.size w w' := by
  have HT := Lib.hid ht
  have HTC := Lib.hid (fun (W : World) (hb : Below w.heap.size w W) => rTabCheck_any nm vc vk vf vx cs zs fs es d W L L L L (ht.c.step hb (Nat.le_refl _)) (ht.k.step hb (Nat.le_refl _)) (ht.f.step hb (Nat.le_refl _)) (ht.x.step hb (Nat.le_refl _)) hlen hd)
  have HF := Lib.hid (fun (W : World) (hb : Below w.heap.size w W) => rFind_any (.string nm) vc vk vf vx cs h.nm W L (ht.c.step hb (Nat.le_refl _)))
  have HF2 := Lib.hid (fun (W : World) (hb : Below w.heap.size w W) => rFind_any (.string nm) vc vk vf vx cs h.to W L (ht.c.step hb (Nat.le_refl _)))
  have HA := Lib.hid (fun (W : World) (hb : Below w.heap.size w W) => rAdd_any (.string nm) vc vk vf vx cs h W L (ht.c.step hb (Nat.le_refl _)))
  have HN := Lib.hid (fun (W : World) => rName_any h.to W)
  have HU := Lib.hid (fun (W : World) => rPlain_any h W)
  have HD := Lib.hid (fun (W : World) (hb : Below w.heap.size w W) => rUsed_any (.string nm) vc vk vf vx zs fs es d (findK h.nm 0 cs) W L L L (ht.k.step hb (Nat.le_refl _)) (ht.f.step hb (Nat.le_refl _)) (ht.x.step hb (Nat.le_refl _)) le1)
  have hx1 := fun (hk : ¬ (h.k < 1 ∨ 4 < h.k)) (he : eqH h (plnC h) = true) => chg_k1 (cs := cs) (zs := zs) (fs := fs) (d := d) (es := es) hk he
  have hx0 : (h.k < 1 ∨ 4 < h.k) → chgE cs zs fs d es h = 7 := fun hk => by unfold chgE; rw [if_pos hk]
  have hx2 : ¬ (h.k < 1 ∨ 4 < h.k) → eqH h (plnC h) = false → chgE cs zs fs d es h = 8 := fun hk he => by unfold chgE; rw [if_neg hk, if_pos he]
  have hy0 : chkA nm.data.toList cs zs fs d es = 0 → evoE nm.data.toList cs zs fs d es h = chgE cs zs fs d es h := fun h0 => by unfold evoE; rw [if_neg (fun h => h h0)]
  have hy1 : chkA nm.data.toList cs zs fs d es ≠ 0 → evoE nm.data.toList cs zs fs d es h = chkA nm.data.toList cs zs fs d es := fun h0 => by unfold evoE; rw [if_pos h0]
  have hre : renE cs h = if nameS h.to.data.toList = false then 1 else if 0 ≤ findK h.to 0 cs then 10 else 0 := rfl
  have hfl := findK_lo h.nm cs 0
  have hfu := findK_up h.nm cs 0
  generalize evoE nm.data.toList cs zs fs d es h = RES at *
  generalize chkA nm.data.toList cs zs fs d es = CK at *
  generalize chgE cs zs fs d es h = R at *
  generalize addE cs h = RA at *
  generalize renE cs h = RR at *
  generalize findK h.nm 0 cs = fi at *
  generalize findK h.to 0 cs = f2 at *
  generalize hp : plnC h = h2 at *
  clear ht hd le1 hp
  obtain ⟨k, s1, s2, ⟨s3, ck, cb⟩, ⟨p1, p2, p3⟩⟩ := h
  obtain ⟨l, t1, t2, ⟨t3, dk, db⟩, ⟨q1, q2, q3⟩⟩ := h2
  have hneq := fun W => neq_chg k s1 s2 s3 ck cb p1 p2 p3 l t1 t2 t3 dk db q1 q2 q3 W
  generalize eqH ⟨k, s1, s2, (s3, ck, cb), (p1, p2, p3)⟩ ⟨l, t1, t2, (t3, dk, db), (q1, q2, q3)⟩ = bq at *
  unfold chV chA at *
  dsimp only at *
  generalize nameS s2.data.toList = b2 at *
  have HX0 := Lib.hid hx0
  have HX1 := Lib.hid hx1
  have HX2 := Lib.hid hx2
  have HY0 := Lib.hid hy0
  have HY1 := Lib.hid hy1
  have HRE := Lib.hid hre
  have HFL := Lib.hid hfl
  have HFU := Lib.hid hfu
  clear hx0 hx1 hx2 hfl hfu hy0 hy1 hre
  obtain ⟨A0, c0', e0⟩ := shK HT.out.c
  obtain ⟨A1, c1', e1⟩ := shI HT.out.k
  obtain ⟨A2, c2', e2⟩ := shF HT.out.f
  obtain ⟨A3, c3', e3, _⟩ := HT.out.x.slice
  subst e0 e1 e2 e3
  obtain ⟨HO0, HO1, HB⟩ := bx2 w 27 #[.string nm, .slice A0 cs.length c0', .slice A1 zs.length c1', .slice A2 fs.length c2', .slice A3 es.length c3'] 33 #[.int .i64 k, .string s1, .string s2, .string s3, .int .i64 ck, .bool cb, .int .i64 p1, .int .i64 p2, .string p3]
  obtain ⟨d0, d1, d2, d3, d4⟩ := Own.five HO0.out
  go_enter Tryz.func9, Tryz.ntmps9
  go_wp2_with fail
  with_reducible refine (HTC.out _ HB.out).mono ?_
  rintro e w1 ⟨rfl, hb⟩
  replace HO0 := blw HO0 hb
  replace HO1 := blw HO1 hb
  replace HB := btr HB hb
  clear hb d0 d1 d2 d3 d4
  by_cases hz : CK = 0
  rotate_left
  · have hzb : (CK != 0) = true := by simp [hz]
    have hr := HY1.out hz
    subst hr
    clear hz
    go_wp2
    go_ret
    exact ⟨rfl, HB.out⟩
  have hr0 := HY0.out hz
  subst hz
  subst hr0
  obtain ⟨d0, d1, d2, d3, d4⟩ := Own.five HO0.out
  obtain ⟨x0, x1, x2, x3, x4, x5, x6, x7, x8⟩ := oc9 HO1
  by_cases hk : k < 1 ∨ 4 < k
  · have hr := HX0.out hk
    subst hr
    rcases hk with hk | hk
    · go_wp2
      go_ret
      exact ⟨rfl, HB.out⟩
    · have hk1 : ¬ k < 1 := by omega
      go_wp2
      go_ret
      exact ⟨rfl, HB.out⟩
  have hk1 : ¬ k < 1 := by omega
  have hk4 : ¬ 4 < k := by omega
  have HK := Lib.hid hk
  clear hk
  go_upto_region 6 with fail
  clear x0 x1 x2 x3 x4 x5 x6 x7 x8 d0 d1 d2 d3 d4
  obtain ⟨x0, x1, x2, x3, x4, x5, x6, x7, x8⟩ := oa9 HO1
  (refine wp_region_after (by kernel_rfl) (by kernel_rfl) ?_; (repeat (go_big_quiet_step ((go_at_call 23; exact calls_after (HU.out _))))); refine wpQuiet_nil ?_; intro wq hw0; obtain ⟨⟨wq0, hbq⟩, hw1⟩ := hw0; subst hw1; (try dsimp only))
  replace HO0 := blw HO0 hbq
  replace HO1 := blw HO1 hbq
  replace HB := btr HB hbq
  clear hbq x0 x1 x2 x3 x4 x5 x6 x7 x8 hneq
  cases bq
  · have hr := HX2.out HK.out rfl
    subst hr
    go_wp2
    go_ret
    exact ⟨rfl, HB.out⟩
  have hr := HX1.out HK.out rfl
  have HRR := Lib.hid hr
  clear hr
  obtain ⟨d0, d1, d2, d3, d4⟩ := Own.five HO0.out
  obtain ⟨x0, x1, x2, x3, x4, x5, x6, x7, x8⟩ := oc9 HO1
  by_cases h1 : k = 1
  · subst h1
    have hr := HRR.out
    rw [if_pos rfl] at hr
    subst hr
    go_wp2_with fail
    with_reducible refine (HA.out _ HB.out).mono ?_
    rintro e w2 ⟨rfl, hb⟩
    replace HB := btr HB hb
    clear hb x0 x1 x2 x3 x4 x5 x6 x7 x8 d0 d1 d2 d3 d4
    go_wp2
    go_ret
    exact ⟨rfl, HB.out⟩
  have h1b : (k == 1) = false := by rw [beq_eq_false_iff_ne]; exact h1
  have hr := HRR.out
  rw [if_neg h1] at hr
  have HRR := Lib.hid hr
  clear hr h1
  go_wp2_with fail
  with_reducible refine (HF.out _ HB.out).mono ?_
  rintro e w2 ⟨rfl, hb⟩
  replace HO0 := blw HO0 hb
  replace HO1 := blw HO1 hb
  replace HB := btr HB hb
  clear hb x0 x1 x2 x3 x4 x5 x6 x7 x8 d0 d1 d2 d3 d4 h1b
  obtain ⟨d0, d1, d2, d3, d4⟩ := Own.five HO0.out
  obtain ⟨x0, x1, x2, x3, x4, x5, x6, x7, x8⟩ := oc9 HO1
  by_cases hf : fi < 0
  · have hr := HRR.out
    rw [if_pos hf] at hr
    subst hr
    go_wp2
    go_ret
    exact ⟨rfl, HB.out⟩
  have hr := HRR.out
  rw [if_neg hf] at hr
  have HRR := Lib.hid hr
  clear hr
  by_cases h3 : k = 3
  · subst h3
    have hr := HRR.out
    rw [if_pos rfl] at hr
    subst hr
    have hr := HRE.out
    subst hr
    go_wp2_with fail
    with_reducible refine (HN.out _).mono ?_
    rintro e w3 ⟨rfl, hb⟩
    replace HO0 := blw HO0 hb
    replace HO1 := blw HO1 hb
    replace HB := btr HB hb
    clear hb x0 x1 x2 x3 x4 x5 x6 x7 x8 d0 d1 d2 d3 d4
    cases b2
    · go_wp2
      go_ret
      exact ⟨rfl, HB.out⟩
    obtain ⟨d0, d1, d2, d3, d4⟩ := Own.five HO0.out
    obtain ⟨x0, x1, x2, x3, x4, x5, x6, x7, x8⟩ := oc9 HO1
    go_wp2_with fail
    with_reducible refine (HF2.out _ HB.out).mono ?_
    rintro e w4 ⟨rfl, hb⟩
    replace HB := btr HB hb
    clear hb x0 x1 x2 x3 x4 x5 x6 x7 x8 d0 d1 d2 d3 d4
    by_cases hg : 0 ≤ f2
    · have hgd : decide (0 ≤ f2) = true := decide_eq_true hg
      go_wp2
      go_ret
      exact ⟨by simp [hg], HB.out⟩
    · have hgd : decide (0 ≤ f2) = false := decide_eq_false hg
      go_wp2
      go_ret
      exact ⟨by simp [hg], HB.out⟩
  have h3b : (k == 3) = false := by rw [beq_eq_false_iff_ne]; exact h3
  have hr := HRR.out
  rw [if_neg h3] at hr
  have HRR := Lib.hid hr
  clear hr h3
  go_wp2_with fail
  with_reducible refine (HD.out _ HB.out).mono ?_
  rintro e w3 ⟨rfl, hb⟩
  replace HO0 := blw HO0 hb
  replace HO1 := blw HO1 hb
  replace HB := btr HB hb
  clear hb x0 x1 x2 x3 x4 x5 x6 x7 x8 d0 d1 d2 d3 d4 h3b
  obtain ⟨d0, d1, d2, d3, d4⟩ := Own.five HO0.out
  obtain ⟨x0, x1, x2, x3, x4, x5, x6, x7, x8⟩ := oc9 HO1
  have hup : fi < (cs.length : Int) := by have := HFU.out; omega
  have hlc := hlen
  by_cases hu : fi ∈ usdL zs fs d es
  · have hr := HRR.out
    rw [if_pos hu] at hr
    subst hr
    have hdu : decide (fi ∈ usdL zs fs d es) = true := decide_eq_true hu
    rw [hdu]
    clear hdu
    clear hu
    go_wp2
    go_ret
    exact ⟨rfl, HB.out⟩
  have hr := HRR.out
  rw [if_neg hu] at hr
  have HRR := Lib.hid hr
  have hdu : decide (fi ∈ usdL zs fs d es) = false := decide_eq_false hu
  rw [hdu]
  clear hdu
  clear hr hu
  by_cases h4 : k = 4
  · subst h4
    obtain ⟨j, hj⟩ : ∃ j : Nat, fi = (j : Int) := ⟨fi.toNat, by omega⟩
    subst hj
    have hjl : j < cs.length := by omega
    obtain ⟨A9, c9, hv9, _, hc9⟩ := HT.out.c
    injection hv9 with e1 e2 e3
    subst e1 e3
    obtain ⟨ad, rfl, _, hab, a0, a1, a2⟩ := hc9 j _ (List.getElem?_eq_getElem hjl)
    have hkd : kdAt cs (j : Int) = cs[j].2.1 := by unfold kdAt; rw [Int.toNat_natCast, List.getElem?_eq_getElem hjl]; rfl
    have e1 := (HB.out.cell (p := ⟨(ad.add (j * 3)).block, (ad.add (j * 3)).off + 1, none⟩) (by show (ad.add (j * 3)).block < _; rw [add_block]; exact hab)).trans a1
    rw [hkd] at HRR
    generalize cs[j] = q at *
    obtain ⟨qn, qk, qb⟩ := q
    dsimp only at *
    clear a0 a1 a2 hc9 hkd
    have hj0 : ¬ (j : Int) < 0 := by omega
    by_cases hq : qk = 2
    · subst hq
      have hr := HRR.out
      rw [if_pos ⟨rfl, rfl⟩] at hr
      subst hr
      go_wp2
      go_ret
      exact ⟨rfl, HB.out⟩
    · have hqb : (qk == 2) = false := by rw [beq_eq_false_iff_ne]; exact hq
      have hr := HRR.out
      rw [if_neg (fun h => hq h.2)] at hr
      subst hr
      clear hq
      go_wp2
      go_ret
      exact ⟨rfl, HB.out⟩
  · have h4b : (k == 4) = false := by rw [beq_eq_false_iff_ne]; exact h4
    have hr := HRR.out
    rw [if_neg (fun h => h4 h.1)] at hr
    subst hr
    clear h4
    go_wp2
    go_ret
    exact ⟨rfl, HB.out⟩
end Go.Proofs.YteihjneeiojgaaaGreat
/-
  The walk of the statement EvolveChecks. Conditions: the search's variable holds some number; lengths.
-/
namespace Go.Proofs.YteihjneeiojgaaaGreat
set_option maxRecDepth 100000
set_option linter.unusedVariables false
set_option linter.unusedSimpArgs false
open Go.RowKit

set_option maxRecDepth 100000 in
set_option maxHeartbeats 12800000 in
theorem law_echecks (nm : ByteArray) (vc vk vf vx : Value) (cs : List Cl) (zs : List Int) (fs : List Fk) (es : List Ex) (h : Chg) (d : Nat) (m : Int) (w : World) (hm : w.cell? ⟨0, 0, none⟩ = some (.int .i64 m)) (hc : RdK w 0 w.heap.size vc cs) (hk : RdI w 0 w.heap.size vk zs) (hf : RdF w 0 w.heap.size vf fs) (he : RdE w 0 w.heap.size (d + 1) vx es) (hlen : cs.length ≤ 1099511627776) (hd : d ≤ 9223372036854775000)
    (lz : zs.length ≤ 1048576) (lf1 : ∀ f ∈ fs, f.1.length ≤ 1048576) (hok : ∀ m, ∀ e ∈ es, okX m e) (hcl : ∀ m, (es.flatMap (colE m)).length ≤ 1048576) :
    Calls Tryz.prog 3 #[.agg #[.string nm, vc, vk, vf, vx], chV h] w fun e w' => e = .returned (.bool true) ∧ Below w.heap.size w w' := by
  have ht : RdT w 0 w.heap.size vc vk vf vx cs zs fs d es := ⟨hc, hk, hf, he⟩
  have hcl' : ∀ W : World, Below w.heap.size w W → W.cell? ⟨0, 0, none⟩ = some (.int .i64 m) := fun W hb => (hb.cell (p := ⟨0, 0, none⟩) (World.block_lt_of_cell? w _ hm)).trans hm
  have hs : chkA nm.data.toList cs zs fs d es = 0 → SmT cs zs fs d es := fun hz => (gd_of hz lz lf1 hok hcl).s
  have le1 : ∀ e ∈ es, (colE d e).length ≤ 1099511627775 := fun e he => by
    have h1 := len_flat (colE d) es e he
    have h2 := hcl d
    omega
  have H8 := fun (W : World) (hb : Below w.heap.size w W) => pEvCheck_any nm vc vk vf vx cs zs fs d es h m W 0 (hcl' W hb) (ht.step hb (Nat.le_refl _)) hlen hs
  have H9 := fun (W : World) (hb : Below w.heap.size w W) => rEvCheck_any nm vc vk vf vx cs zs fs d es h W 0 (ht.step hb (Nat.le_refl _)) hlen hd le1
  have H10 := fun (W : World) (hb : Below w.heap.size w W) => awake14_any m W (hcl' W hb)
  generalize evoE nm.data.toList cs zs fs d es h = R at *
  obtain ⟨A0, c0', e0⟩ := shK hc
  obtain ⟨A1, c1', e1⟩ := shI hk
  obtain ⟨A2, c2', e2⟩ := shF hf
  obtain ⟨A3, c3', e3, _⟩ := he.slice
  obtain ⟨k, s1, s2, ⟨s3, ck, cb⟩, ⟨p1, p2, p3⟩⟩ := h
  unfold chV chA at *
  dsimp only at *
  subst e0 e1 e2 e3
  clear hc hk hf he hm ht hs le1 hcl' lz lf1 hok hcl
  obtain ⟨HO0, HO1, HB⟩ := bx2 w 27 #[.string nm, .slice A0 cs.length c0', .slice A1 zs.length c1', .slice A2 fs.length c2', .slice A3 es.length c3'] 33 #[.int .i64 k, .string s1, .string s2, .string s3, .int .i64 ck, .bool cb, .int .i64 p1, .int .i64 p2, .string p3]
  go_enter Tryz.func3, Tryz.ntmps3
  go_upto_region 1 with fail
  generalize (w.alloc (.cells #[.string nm, .slice A0 cs.length c0', .slice A1 zs.length c1', .slice A2 fs.length c2', .slice A3 es.length c3'] 27)).alloc (.cells #[.int .i64 k, .string s1, .string s2, .string s3, .int .i64 ck, .bool cb, .int .i64 p1, .int .i64 p2, .string p3] 33) = W at *
  have HP := Lib.hid (fun r : After W => H8 r.w (HB.out.trans (r.h.mono HB.out.size)))
  have HR := Lib.hid (fun r : After W => H9 r.w (HB.out.trans (r.h.mono HB.out.size)))
  have HA := Lib.hid (fun r : After W => H10 r.w (HB.out.trans (r.h.mono HB.out.size)))
  clear H8 H9 H10
  have T0 := after_cell HO0.out.lt (HO0.out.cell 0)
  have T1 := after_cell HO0.out.lt (HO0.out.cell 1)
  have T2 := after_cell HO0.out.lt (HO0.out.cell 2)
  have T3 := after_cell HO0.out.lt (HO0.out.cell 3)
  have T4 := after_cell HO0.out.lt (HO0.out.cell 4)
  obtain ⟨x0, x1, x2, x3, x4, x5, x6, x7, x8⟩ := oa9 HO1
  (refine wp_region_after (by kernel_rfl) (by kernel_rfl) ?_; (repeat (go_big_quiet_step (first | (go_at_call 8; exact calls_after (HP.out _)) | (go_at_call 9; exact calls_after (HR.out _)) | (go_at_call 10; exact calls_after (HA.out _))))); refine wpQuiet_nil ?_; intro wq hw0; obtain ⟨⟨wq0, hbq⟩, hw1⟩ := hw0; subst hw1; (try dsimp only))
  clear x0 x1 x2 x3 x4 x5 x6 x7 x8 T0 T1 T2 T3 T4 HP HR HA
  go_wp2
  go_ret
  exact ⟨(by first | rfl | simp), HB.out.trans (hbq.mono HB.out.size)⟩
end Go.Proofs.YteihjneeiojgaaaGreat
/-
  The reference's Index and Lossless, and the walk of the statement EvolveIndices. Conditions: the search's variable holds some number; lengths.
-/
namespace Go.Proofs.YteihjneeiojgaaaGreat
set_option maxRecDepth 100000
set_option linter.unusedVariables false
set_option linter.unusedSimpArgs false
open Go.RowKit

set_option maxRecDepth 100000 in
set_option maxHeartbeats 6400000 in
theorem rLossless_any (h : Chg) (w : World) : Calls Tryz.prog 19 #[chV h] w fun e w' => e = .returned (.bool (losE h.k)) ∧ Below w.heap.size w w' := by
  obtain ⟨k, s1, s2, ⟨s3, ck, cb⟩, ⟨p1, p2, p3⟩⟩ := h
  unfold chV chA losE
  dsimp only
  obtain ⟨HC, HB⟩ := bx1 w 33 #[.int .i64 k, .string s1, .string s2, .string s3, .int .i64 ck, .bool cb, .int .i64 p1, .int .i64 p2, .string p3]
  obtain ⟨x0, x1, x2, x3, x4, x5, x6, x7, x8⟩ := oc9 HC
  by_cases h1 : k = 1
  · subst h1
    go_enter Tryz.func19, Tryz.ntmps19
    go_wp2
    go_ret
    exact ⟨rfl, HB.out⟩
  have b1 : (k == 1) = false := by rw [beq_eq_false_iff_ne]; exact h1
  by_cases h3 : k = 3
  · subst h3
    clear h1
    go_enter Tryz.func19, Tryz.ntmps19
    go_wp2
    go_ret
    exact ⟨rfl, HB.out⟩
  have b3 : (k == 3) = false := by rw [beq_eq_false_iff_ne]; exact h3
  by_cases h4 : k = 4
  · subst h4
    clear h1 h3
    go_enter Tryz.func19, Tryz.ntmps19
    go_wp2
    go_ret
    exact ⟨rfl, HB.out⟩
  have b4 : (k == 4) = false := by rw [beq_eq_false_iff_ne]; exact h4
  have HF := Lib.hid (show (k == 1 || k == 3 || k == 4) = false by rw [b1, b3, b4]; rfl)
  clear h1 h3 h4
  go_enter Tryz.func19, Tryz.ntmps19
  go_wp2
  go_ret
  exact ⟨by rw [HF.out]; rfl, HB.out⟩
set_option maxRecDepth 100000 in
set_option maxHeartbeats 12800000 in
theorem rIndex_any (nm : ByteArray) (u1 u2 u3 u4 : Value) (cs : List Cl) (zs : List Int) (fs : List Fk) (d : Nat) (es : List Ex) (h : Chg) (col : Int) (w : World) (ht : RdT w 0 w.heap.size u1 u2 u3 u4 cs zs fs d es) (hlen : cs.length ≤ 1099511627776) (hdd : d ≤ 9223372036854775000) (le1 : ∀ e ∈ es, (colE d e).length ≤ 1099511627775) :
    Calls Tryz.prog 17 #[.agg #[.string nm, u1, u2, u3, u4], chV h, .int .i64 col] w fun e w' => e = .returned (.int .i64 (idxE nm.data.toList cs zs fs d es h col)) ∧ Below w.heap.size w w' := by
  have HCK := Lib.hid (fun (W : World) (hb : Below w.heap.size w W) => rEvCheck_any nm u1 u2 u3 u4 cs zs fs d es h W 0 (ht.step hb (Nat.le_refl _)) hlen hdd le1)
  have HFD := Lib.hid (fun (W : World) (hb : Below w.heap.size w W) => rFind_any (.string nm) u1 u2 u3 u4 cs h.nm W 0 (ht.c.step hb (Nat.le_refl _)))
  obtain ⟨A1, c1, e1⟩ := shK ht.c
  subst e1
  have hd : idxE nm.data.toList cs zs fs d es h col = (if evoE nm.data.toList cs zs fs d es h ≠ 0 ∨ col < 0 ∨ (cs.length : Int) ≤ col then -1 else if h.k ≠ 2 then col else if col = findK h.nm 0 cs then -1 else mvI (findK h.nm 0 cs) col) := rfl
  generalize idxE nm.data.toList cs zs fs d es h col = RES at *
  generalize evoE nm.data.toList cs zs fs d es h = E at *
  generalize findK h.nm 0 cs = fi at *
  obtain ⟨k, s1, s2, ⟨s3, ck, cb⟩, ⟨p1, p2, p3⟩⟩ := h
  clear ht hdd le1
  unfold chV chA at *
  dsimp only at *
  have HD := Lib.hid hd
  clear hd
  obtain ⟨HT, HC, HB⟩ := bx2 w 27 #[.string nm, .slice A1 cs.length c1, u2, u3, u4] 33 #[.int .i64 k, .string s1, .string s2, .string s3, .int .i64 ck, .bool cb, .int .i64 p1, .int .i64 p2, .string p3]
  obtain ⟨d0, d1, d2, d3, d4⟩ := Own.five HT.out
  obtain ⟨x0, x1, x2, x3, x4, x5, x6, x7, x8⟩ := oc9 HC
  go_enter Tryz.func17, Tryz.ntmps17
  go_wp2_with fail
  with_reducible refine (HCK.out _ HB.out).mono ?_
  rintro e w2 ⟨rfl, hb⟩
  replace HT := blw HT hb
  replace HC := blw HC hb
  replace HB := btr HB hb
  clear hb d0 d1 d2 d3 d4 x0 x1 x2 x3 x4 x5 x6 x7 x8 HCK
  by_cases he : E = 0
  rotate_left
  · have hrn : (E != 0) = true := by simp [he]
    have HR := Lib.hid (show RES = -1 from HD.out.trans (if_pos (.inl he)))
    clear he HD
    go_wp2
    go_ret
    exact ⟨by rw [HR.out]; rfl, HB.out⟩
  subst he
  obtain ⟨d0, d1, d2, d3, d4⟩ := Own.five HT.out
  obtain ⟨x0, x1, x2, x3, x4, x5, x6, x7, x8⟩ := oc9 HC
  by_cases hc0 : col < 0
  · have HR := Lib.hid (show RES = -1 from HD.out.trans (if_pos (.inr (.inl hc0))))
    clear HD
    go_wp2
    go_ret
    exact ⟨by rw [HR.out]; rfl, HB.out⟩
  by_cases hc1 : (cs.length : Int) ≤ col
  · have HR := Lib.hid (show RES = -1 from HD.out.trans (if_pos (.inr (.inr hc1))))
    clear HD
    go_wp2
    go_ret
    exact ⟨by rw [HR.out]; rfl, HB.out⟩
  have HN := Lib.hid (show ¬ ((0 : Int) ≠ 0 ∨ col < 0 ∨ (cs.length : Int) ≤ col) from fun h => h.elim (fun h => h rfl) (fun h => h.elim hc0 hc1))
  by_cases hk : k = 2
  rotate_left
  · have hkn : (k != 2) = true := by simp [hk]
    have HR := Lib.hid (show RES = col from HD.out.trans ((if_neg HN.out).trans (if_pos hk)))
    clear hk HD
    go_wp2
    go_ret
    exact ⟨by rw [HR.out]; rfl, HB.out⟩
  subst hk
  have HCB := Lib.hid (show 0 ≤ col ∧ col ≤ 9223372036854775807 from by omega)
  have HMV := Lib.hid (fun W => move_any col fi W HCB.out)
  have HRES := Lib.hid (show RES = (if col = fi then -1 else mvI fi col) from HD.out.trans ((if_neg HN.out).trans (if_neg (fun h => h rfl))))
  go_wp2_with fail
  with_reducible refine (HFD.out _ HB.out).mono ?_
  rintro e w3 ⟨rfl, hb⟩
  replace HB := btr HB hb
  clear hb d0 d1 d2 d3 d4 x0 x1 x2 x3 x4 x5 x6 x7 x8 HFD HT HC hc0 hc1
  by_cases hf : col = fi
  · have hfb : (col == fi) = true := by rw [beq_iff_eq]; exact hf
    have HR := Lib.hid (show RES = -1 from HRES.out.trans (if_pos hf))
    clear hf HRES HD HN
    go_wp2
    go_ret
    exact ⟨by rw [HR.out]; rfl, HB.out⟩
  · have hfb : (col == fi) = false := by rw [beq_eq_false_iff_ne]; exact hf
    have HR := Lib.hid (show RES = mvI fi col from HRES.out.trans (if_neg hf))
    have hcb := HCB.out
    unfold mvI at HR
    clear hf HRES HD HN HMV
    by_cases hg : fi < col
    · have HR2 := Lib.hid (HR.out.trans (if_pos hg))
      have hgd : decide (fi < col) = true := decide_eq_true hg
      clear HR
      go_wp2
      go_ret
      exact ⟨by rw [HR2.out]; first | done | rfl | go_num, HB.out⟩
    · have HR2 := Lib.hid (HR.out.trans (if_neg hg))
      have hgd : decide (fi < col) = false := decide_eq_false hg
      clear HR
      go_wp2
      go_ret
      exact ⟨by rw [HR2.out]; rfl, HB.out⟩
set_option maxRecDepth 100000 in
set_option maxHeartbeats 12800000 in
theorem law_eindices (nm : ByteArray) (vc vk vf vx : Value) (cs : List Cl) (zs : List Int) (fs : List Fk) (es : List Ex) (h : Chg) (col : Int) (d : Nat) (m : Int) (w : World) (hm : w.cell? ⟨0, 0, none⟩ = some (.int .i64 m)) (hc : RdK w 0 w.heap.size vc cs) (hk : RdI w 0 w.heap.size vk zs) (hf : RdF w 0 w.heap.size vf fs) (he : RdE w 0 w.heap.size (d + 1) vx es) (hlen : cs.length ≤ 1099511627776) (hd : d ≤ 9223372036854775000)
    (lz : zs.length ≤ 1048576) (lf1 : ∀ f ∈ fs, f.1.length ≤ 1048576) (hok : ∀ m, ∀ e ∈ es, okX m e) (hcl : ∀ m, (es.flatMap (colE m)).length ≤ 1048576) :
    Calls Tryz.prog 6 #[.agg #[.string nm, vc, vk, vf, vx], chV h, .int .i64 col] w fun e w' => e = .returned (.bool true) ∧ Below w.heap.size w w' := by
  have ht : RdT w 0 w.heap.size vc vk vf vx cs zs fs d es := ⟨hc, hk, hf, he⟩
  have hcl' : ∀ W : World, Below w.heap.size w W → W.cell? ⟨0, 0, none⟩ = some (.int .i64 m) := fun W hb => (hb.cell (p := ⟨0, 0, none⟩) (World.block_lt_of_cell? w _ hm)).trans hm
  have hs : chkA nm.data.toList cs zs fs d es = 0 → GdT ⟨cs, zs, fs, d, es⟩ := fun hz => gd_of hz lz lf1 hok hcl
  have le1 : ∀ e ∈ es, (colE d e).length ≤ 1099511627775 := fun e he => by
    have h1 := len_flat (colE d) es e he
    have h2 := hcl d
    omega
  have H8 := fun (W : World) (hb : Below w.heap.size w W) => pIndex_any nm vc vk vf vx cs zs fs d es h col m W (hcl' W hb) (ht.step hb (Nat.le_refl _)) hlen hs
  have H9 := fun (W : World) (hb : Below w.heap.size w W) => rIndex_any nm vc vk vf vx cs zs fs d es h col W (ht.step hb (Nat.le_refl _)) hlen hd le1
  have H11 := fun (W : World) => pLossless_any h W
  have H12 := fun (W : World) => rLossless_any h W
  have H10 := fun (W : World) (hb : Below w.heap.size w W) => awake14_any m W (hcl' W hb)
  generalize idxE nm.data.toList cs zs fs d es h col = R at *
  generalize losE h.k = lo at *
  obtain ⟨A0, c0', e0⟩ := shK hc
  obtain ⟨A1, c1', e1⟩ := shI hk
  obtain ⟨A2, c2', e2⟩ := shF hf
  obtain ⟨A3, c3', e3, _⟩ := he.slice
  obtain ⟨k, s1, s2, ⟨s3, ck, cb⟩, ⟨p1, p2, p3⟩⟩ := h
  unfold chV chA at *
  dsimp only at *
  subst e0 e1 e2 e3
  clear hc hk hf he hm ht hs le1 hcl' lz lf1 hok hcl
  obtain ⟨HO0, HO1, HB⟩ := bx2 w 27 #[.string nm, .slice A0 cs.length c0', .slice A1 zs.length c1', .slice A2 fs.length c2', .slice A3 es.length c3'] 33 #[.int .i64 k, .string s1, .string s2, .string s3, .int .i64 ck, .bool cb, .int .i64 p1, .int .i64 p2, .string p3]
  go_enter Tryz.func6, Tryz.ntmps6
  go_upto_region 1 with fail
  generalize (w.alloc (.cells #[.string nm, .slice A0 cs.length c0', .slice A1 zs.length c1', .slice A2 fs.length c2', .slice A3 es.length c3'] 27)).alloc (.cells #[.int .i64 k, .string s1, .string s2, .string s3, .int .i64 ck, .bool cb, .int .i64 p1, .int .i64 p2, .string p3] 33) = W at *
  have HP := Lib.hid (fun r : After W => H8 r.w (HB.out.trans (r.h.mono HB.out.size)))
  have HR := Lib.hid (fun r : After W => H9 r.w (HB.out.trans (r.h.mono HB.out.size)))
  have HA := Lib.hid (fun r : After W => H10 r.w (HB.out.trans (r.h.mono HB.out.size)))
  have HL1 := Lib.hid (fun r : After W => H11 r.w)
  have HL2 := Lib.hid (fun r : After W => H12 r.w)
  clear H8 H9 H10 H11 H12
  have T0 := after_cell HO0.out.lt (HO0.out.cell 0)
  have T1 := after_cell HO0.out.lt (HO0.out.cell 1)
  have T2 := after_cell HO0.out.lt (HO0.out.cell 2)
  have T3 := after_cell HO0.out.lt (HO0.out.cell 3)
  have T4 := after_cell HO0.out.lt (HO0.out.cell 4)
  obtain ⟨x0, x1, x2, x3, x4, x5, x6, x7, x8⟩ := oa9 HO1
  (refine wp_region_after (by kernel_rfl) (by kernel_rfl) ?_; (repeat (go_big_quiet_step (first | (go_at_call 16; exact calls_after (HP.out _)) | (go_at_call 17; exact calls_after (HR.out _)) | (go_at_call 18; exact calls_after (HL1.out _)) | (go_at_call 19; exact calls_after (HL2.out _)) | (go_at_call 10; exact calls_after (HA.out _))))); refine wpQuiet_nil ?_; intro wq hw0; obtain ⟨⟨wq0, hbq⟩, hw1⟩ := hw0; subst hw1; (try dsimp only))
  clear x0 x1 x2 x3 x4 x5 x6 x7 x8 T0 T1 T2 T3 T4 HP HR HA HL1 HL2
  go_wp2
  go_ret
  exact ⟨(by first | rfl | simp), HB.out.trans (hbq.mono HB.out.size)⟩
end Go.Proofs.YteihjneeiojgaaaGreat
