import Derived.Test.YteihjneeiojgaaaSEoA
import Derived.Test.YteihjneeiojgaaaSEoC
import Derived.Test.YteihjneeiojgaaaSScWb
import Derived.Test.YteihjneeiojgaaaPF
import Derived.WalkKit
import Derived.WalkSpells
import Derived.WalkLawsBesides
import Derived.Deep.QuietTactic
import Derived.BigQuiet
import Derived.Handy
import Derived.Lib.Hide
/-
  checkAdd and checkRename of evolve: the errors of a new column and of a new name. Conditions: lengths; the definition's names are letters, digits and underscores.
-/
namespace Go.Proofs.Yteihjneeiojgaaa
set_option maxRecDepth 100000
set_option linter.unusedVariables false
set_option linter.unusedSimpArgs false
open Go.RowKit

def addE (cs : List Cl) (h : Chg) : Int := if 12 ≤ cs.length then 13 else if nameS h.c.1.data.toList = false then 1 else if h.c.2.1 < 1 ∨ 3 < h.c.2.1 then 7 else if 0 ≤ findK h.c.1 0 cs then 10 else accS [h.c] [h.p]
def renE (cs : List Cl) (h : Chg) : Int := if nameS h.to.data.toList = false then 1 else if 0 ≤ findK h.to 0 cs then 10 else 0
theorem rdK_one {w : World} {g : Nat} (c : Cl) (h : Own w g 36 #[.string c.1, .int .i64 c.2.1, .bool c.2.2]) : RdK w 0 w.heap.size (.slice (some ⟨g, 0, none⟩) 1 1) [c] := by
  refine ⟨_, _, rfl, by simp, fun k r hk => ⟨_, rfl, Nat.zero_le _, h.lt, ?_⟩⟩
  have hk2 : k = 0 := by have := (List.getElem?_eq_some_iff.1 hk).1; simp at this; omega
  subst hk2
  obtain rfl := Option.some.inj hk
  rw [Nat.zero_mul, addX]
  exact ⟨h.cell 0, h.cell 1, h.cell 2⟩
theorem rdV_oneE {w : World} {g : Nat} (p : Vl) (h : Own w g 38 #[.int .i64 p.1, .int .i64 p.2.1, .string p.2.2]) : RdV w 0 w.heap.size (.slice (some ⟨g, 0, none⟩) 1 1) [p] := by
  refine ⟨_, _, rfl, by simp, fun k r hk => ⟨_, rfl, Nat.zero_le _, h.lt, ?_⟩⟩
  have hk2 : k = 0 := by have := (List.getElem?_eq_some_iff.1 hk).1; simp at this; omega
  subst hk2
  obtain rfl := Option.some.inj hk
  rw [Nat.zero_mul, addX]
  exact ⟨h.cell 0, h.cell 1, h.cell 2⟩
set_option maxRecDepth 100000 in
set_option maxHeartbeats 6400000 in
theorem checkRename_any (nm vc vk vf vx : Value) (cs : List Cl) (h : Chg) (m : Int) (w : World) (L : Nat) (hm : w.cell? ⟨0, 0, none⟩ = some (.int .i64 m)) (hc : RdK w L w.heap.size vc cs) (hnm : ∀ c ∈ cs, (nmC c).all okcB = true) :
    Calls Try.prog 34 #[.agg #[nm, vc, vk, vf, vx], chV h] w fun e w' => e = .returned (.int .i64 (renE cs h)) ∧ Below w.heap.size w w' := by
  have HF := Lib.hid (fun (W : World) (hb : Below w.heap.size w W) => eFind_any nm vc vk vf vx cs h.to W L (hc.step hb (Nat.le_refl _)) hnm)
  have HN := Lib.hid (fun (W : World) (hb : Below w.heap.size w W) => pName_any h.to m W ((hb.cell (p := ⟨0, 0, none⟩) (World.block_lt_of_cell? w _ hm)).trans hm))
  have hlo := findK_lo h.to cs 0
  obtain ⟨k, s1, s2, ⟨s3, ck, cb⟩, ⟨p1, p2, p3⟩⟩ := h
  unfold renE chV chA
  dsimp only at *
  obtain ⟨A0, c0', e0⟩ := shK hc
  subst e0
  generalize nameS s2.data.toList = b at *
  generalize findK s2 0 cs = f at *
  obtain ⟨HO0, HO1, HB⟩ := bx2 w 27 #[nm, .slice A0 cs.length c0', vk, vf, vx] 40 #[.int .i64 k, .string s1, .string s2, .string s3, .int .i64 ck, .bool cb, .int .i64 p1, .int .i64 p2, .string p3]
  obtain ⟨d0, d1, d2, d3, d4⟩ := Own.five HO0.out
  have x2 := HO1.out.cell 2
  clear hm hc hnm
  go_enter Try.func34, Try.ntmps34
  go_wp2_with fail
  with_reducible refine (HN.out _ HB.out).mono ?_
  rintro e w2 ⟨rfl, hb⟩
  replace HO0 := blw HO0 hb
  replace HO1 := blw HO1 hb
  replace HB := btr HB hb
  clear hb d0 d1 d2 d3 d4 x2
  cases b
  · go_wp2
    go_ret
    exact ⟨rfl, HB.out⟩
  · obtain ⟨d0, d1, d2, d3, d4⟩ := Own.five HO0.out
    have x2 := HO1.out.cell 2
    go_wp2_with fail
    with_reducible refine (HF.out _ HB.out).mono ?_
    rintro e w3 ⟨rfl, hb⟩
    replace HB := btr HB hb
    clear hb d0 d1 d2 d3 d4 x2
    by_cases hf : 0 ≤ f
    · have hfd : decide (0 ≤ f) = true := decide_eq_true hf
      go_wp2
      go_ret
      exact ⟨by simp [hf], HB.out⟩
    · have hfd : decide (0 ≤ f) = false := decide_eq_false hf
      go_wp2
      go_ret
      exact ⟨by simp [hf], HB.out⟩
set_option maxRecDepth 100000 in
set_option maxHeartbeats 6400000 in
theorem checkAdd_any (nm vc vk vf vx : Value) (cs : List Cl) (h : Chg) (m : Int) (w : World) (L : Nat) (hm : w.cell? ⟨0, 0, none⟩ = some (.int .i64 m)) (hc : RdK w L w.heap.size vc cs) (hnm : ∀ c ∈ cs, (nmC c).all okcB = true) :
    Calls Try.prog 33 #[.agg #[nm, vc, vk, vf, vx], chV h] w fun e w' => e = .returned (.int .i64 (addE cs h)) ∧ Below w.heap.size w w' := by
  have HF := Lib.hid (fun (W : World) (hb : Below w.heap.size w W) => eFind_any nm vc vk vf vx cs h.c.1 W L (hc.step hb (Nat.le_refl _)) hnm)
  have HN := Lib.hid (fun (W : World) (hb : Below w.heap.size w W) => pName_any h.c.1 m W ((hb.cell (p := ⟨0, 0, none⟩) (World.block_lt_of_cell? w _ hm)).trans hm))
  have hac := fun (W : World) (g g2 : Nat) (h1 : Own W g 36 #[.string h.c.1, .int .i64 h.c.2.1, .bool h.c.2.2]) (h2 : Own W g2 38 #[.int .i64 h.p.1, .int .i64 h.p.2.1, .string h.p.2.2]) => pAccepts_any (.string ⟨#[]⟩) (.slice (some ⟨g, 0, none⟩) 1 1) (.slice none 0 0) (.slice none 0 0) (.slice none 0 0) (.slice (some ⟨g2, 0, none⟩) 1 1) [h.c] [h.p] W 0 0 (rdK_one h.c h1) (rdV_oneE h.p h2)
  obtain ⟨k, s1, s2, ⟨s3, ck, cb⟩, ⟨p1, p2, p3⟩⟩ := h
  unfold addE chV chA
  dsimp only at *
  generalize accS [(s3, ck, cb)] [(p1, p2, p3)] = acc at *
  have HAC := Lib.hid hac
  clear hac
  obtain ⟨A0, c0', e0⟩ := shK hc
  subst e0
  generalize nameS s3.data.toList = b at *
  generalize findK s3 0 cs = f at *
  obtain ⟨HO0, HO1, HB⟩ := bx2 w 27 #[nm, .slice A0 cs.length c0', vk, vf, vx] 40 #[.int .i64 k, .string s1, .string s2, .string s3, .int .i64 ck, .bool cb, .int .i64 p1, .int .i64 p2, .string p3]
  obtain ⟨d0, d1, d2, d3, d4⟩ := Own.five HO0.out
  obtain ⟨x0, x1, x2, x3, x4, x5, x6, x7, x8⟩ := oc9 HO1
  clear hm hc hnm
  by_cases h12 : 12 ≤ cs.length
  · rw [if_pos h12]
    have h12i : (12 : Int) ≤ cs.length := by omega
    clear h12
    go_enter Try.func33, Try.ntmps33
    go_wp2
    go_ret
    exact ⟨rfl, HB.out⟩
  rw [if_neg h12]
  have h12i : ¬ (12 : Int) ≤ cs.length := by omega
  clear h12
  go_enter Try.func33, Try.ntmps33
  go_wp2_with fail
  with_reducible refine (HN.out _ HB.out).mono ?_
  rintro e w2 ⟨rfl, hb⟩
  replace HO0 := blw HO0 hb
  replace HO1 := blw HO1 hb
  replace HB := btr HB hb
  clear hb d0 d1 d2 d3 d4 x0 x1 x2 x3 x4 x5 x6 x7 x8 h12i
  cases b
  · go_wp2
    go_ret
    exact ⟨rfl, HB.out⟩
  obtain ⟨d0, d1, d2, d3, d4⟩ := Own.five HO0.out
  obtain ⟨x0, x1, x2, x3, x4, x5, x6, x7, x8⟩ := oc9 HO1
  by_cases hk : ck < 1 ∨ 3 < ck
  · have hkk := Lib.hid hk
    rcases hk with hk | hk
    · go_wp2
      go_ret
      exact ⟨by simp [hkk.out], HB.out⟩
    · have hk1 : ¬ ck < 1 := by omega
      go_wp2
      go_ret
      exact ⟨by simp [hkk.out], HB.out⟩
  have hkk := Lib.hid hk
  have hk1 : ¬ ck < 1 := by omega
  have hk3 : ¬ 3 < ck := by omega
  clear hk
  go_wp2_with fail
  with_reducible refine (HF.out _ HB.out).mono ?_
  rintro e w3 ⟨rfl, hb⟩
  replace HO0 := blw HO0 hb
  replace HO1 := blw HO1 hb
  replace HB := btr HB hb
  clear hb d0 d1 d2 d3 d4 x0 x1 x2 x3 x4 x5 x6 x7 x8
  obtain ⟨x0, x1, x2, x3, x4, x5, x6, x7, x8⟩ := oc9 HO1
  by_cases hf : 0 ≤ f
  · go_wp2
    go_ret
    exact ⟨by simp [hkk.out, hf], HB.out⟩
  have hz : w.heap.size + 1 < w3.heap.size := HO1.out.lt
  obtain ⟨HC1, -, HV1, HB6⟩ := bx3 w3 36 #[.string s3, .int .i64 ck, .bool cb] 27 #[.string ⟨#[]⟩, .slice (some ⟨w3.heap.size, 0, none⟩) 1 1, .slice none 0 0, .slice none 0 0, .slice none 0 0] 38 #[.int .i64 p1, .int .i64 p2, .string p3]
  have ot := (HO1.out.alloc (.cells #[.string s3, .int .i64 ck, .bool cb] 36)).alloc (.cells #[.string ⟨#[]⟩, .slice (some ⟨w3.heap.size, 0, none⟩) 1 1, .slice none 0 0, .slice none 0 0, .slice none 0 0] 27)
  have y6 := ot.cell 6
  have y7 := ot.cell 7
  have y8 := ot.cell 8
  clear ot
  go_wp2_with fail
  with_reducible refine (HAC.out _ _ _ HC1.out HV1.out).mono ?_
  rintro e w7 ⟨rfl, hb⟩
  have HBX := Lib.hid (HB.out.trans ((HB6.out.trans (hb.mono HB6.out.size)).mono HB.out.size))
  clear hb HB6 HC1 HV1 x0 x1 x2 x3 x4 x5 x6 x7 x8 y6 y7 y8
  go_wp2
  go_ret
  exact ⟨by simp [hkk.out, hf], HBX.out⟩
end Go.Proofs.Yteihjneeiojgaaa
