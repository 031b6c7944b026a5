import Derived.Test.YteihjneeiojgaaaGreatSExUa
import Derived.Test.YteihjneeiojgaaaGreatQM
import Derived.WalkKit
import Derived.WalkSpells
import Derived.WalkLawsBesides
import Derived.Deep.QuietTactic
import Derived.BigQuiet
import Derived.Handy
import Derived.Lib.Hide
import Derived.Test.YteihjneeiojgaaaGreatSEoA
/-
  schema.checkChecks and schema.Check over any table: what they answer. Conditions: the search's variable holds some number; lengths.
-/
namespace Go.Proofs.YteihjneeiojgaaaGreat
set_option maxRecDepth 100000
set_option linter.unusedVariables false
set_option linter.unusedSimpArgs false
open Go.RowKit

def ckxL (zs : List Int) (d : Nat) : List Ex → Int
  | [] => 0
  | e :: es => if (chkT zs d e).2 ≠ 0 then (chkT zs d e).2 else if (chkT zs d e).1 ≠ 3 ∧ (chkT zs d e).1 ≠ 0 then 7 else ckxL zs d es
def ckxE (zs : List Int) (d : Nat) (es : List Ex) : Int := if 4 < es.length then 5 else ckxL zs d es
theorem ckxL_drop (zs : List Int) (d : Nat) {es : List Ex} {k : Nat} {e : Ex} (h : es[k]? = some e) : ckxL zs d (es.drop k) = if (chkT zs d e).2 ≠ 0 then (chkT zs d e).2 else if (chkT zs d e).1 ≠ 3 ∧ (chkT zs d e).1 ≠ 0 then 7 else ckxL zs d (es.drop (k + 1)) := by
  obtain ⟨h1, rfl⟩ := List.getElem?_eq_some_iff.1 h
  rw [List.drop_eq_getElem_cons h1]
  rfl
set_option maxRecDepth 100000 in
set_option maxHeartbeats 12800000 in
theorem checkChecks_any (nm vc vk vf vx : Value) (cs : List Cl) (es : List Ex) (d : Nat) (w : World) (L L2 : Nat) (hc : RdK w L w.heap.size vc cs) (hlen : cs.length ≤ 1099511627776) (he : RdE w L2 w.heap.size (d + 1) vx es) :
    Calls Tryz.prog 45 #[.agg #[nm, vc, vk, vf, vx]] w fun e w' => e = .returned (.int .i64 (ckxE (cs.map kdC) d es)) ∧ Below w.heap.size w w' := by
  obtain ⟨A, c, rfl, hl1, hc1⟩ := he
  have HC := Lib.hid hc1
  have b1 := bel_mark w (.cells #[nm, vc, vk, vf, .slice A es.length c] 27)
  have HO1 := Lib.hid ((Own.new w 27 #[nm, vc, vk, vf, .slice A es.length c]))
  have HK := Lib.hid (pKinds_any nm vc vk vf (.slice A es.length c) cs (w.alloc (.cells #[nm, vc, vk, vf, .slice A es.length c] 27)) L (hc.step b1 (Nat.le_refl _)) hlen)
  have HB1 := Lib.hid b1
  clear b1 hc hc1
  generalize cs.map kdC = zs at *
  obtain ⟨d0, d1, d2, d3, d4⟩ := HO1.out.five
  by_cases hx : 4 < es.length
  · have hxi : (4 : Int) < es.length := by omega
    have HF := Lib.hid (show ckxE zs d es = 5 from if_pos hx)
    clear hx HK
    go_enter Tryz.func45, Tryz.ntmps45
    go_wp2
    go_ret
    exact ⟨(by rw [HF.out]; try rfl), HB1.out⟩
  have hxi : ¬ (4 : Int) < es.length := by omega
  have HE := Lib.hid (show ckxE zs d es = ckxL zs d (es.drop 0) from if_neg hx)
  clear hx
  go_enter Tryz.func45, Tryz.ntmps45
  go_wp2_with fail
  with_reducible refine HK.out.mono ?_
  rintro e w1 ⟨u, rfl, hu, hb⟩
  have HO2 := Lib.hid (HO1.out.below hb HO1.out.lt)
  have HB2 := Lib.hid (HB1.out.trans (hb.mono HB1.out.size))
  have HU := Lib.hid (show RdI w1 0 w1.heap.size u zs from by obtain ⟨A1, c1, q1, q2, q3⟩ := hu; exact ⟨A1, c1, q1, q2, fun k z hk => let ⟨ad, r1, _, r2, r3⟩ := q3 k z hk; ⟨ad, r1, Nat.zero_le _, r2, r3⟩⟩)
  replace d4 := HO2.out.cell 4
  clear HK hb d0 d1 d2 d3
  obtain ⟨Au, cu, rfl⟩ : ∃ Au cu, u = .slice Au zs.length cu := by obtain ⟨a1, c1, h1, _⟩ := hu; exact ⟨a1, c1, h1⟩
  clear hu
  go_wp2_with fail
  go_loopw [17] (fun i wr => ∃ k : Nat, k ≤ es.length ∧ i = .int .i64 k ∧ Hid (ckxE zs d es = ckxL zs d (es.drop k)) ∧ Hid (RdI wr 0 wr.heap.size (.slice Au zs.length cu) zs) ∧ Hid (Own wr w.heap.size 27 #[nm, vc, vk, vf, .slice A es.length c]) ∧ Below w.heap.size w wr) (fun i _ => es.length - (intOf i).toNat)
  case atStart => exact ⟨0, Nat.zero_le _, rfl, HE, HU, HO2, HB2.out⟩
  case round =>
    clear HE HU HO2 HB2 HO1 HB1 d4
    obtain ⟨k, hk, rfl, HR, HU, HO, hbr⟩ := hrel
    have hbz := hbr.size
    by_cases hlt : k < es.length
    · have hki : (k : Int) < es.length := by omega
      obtain ⟨ad, u, rfl, _, hab, hxc, hxr⟩ := HC.out k _ (List.getElem?_eq_getElem hlt)
      have hcd := ckxL_drop zs d (List.getElem?_eq_getElem hlt)
      rw [← HR.out] at hcd
      generalize es[k] = y at *
      obtain ⟨A3, c3, rfl, hl3⟩ := hxr.slice
      have hx := hxc.below hbr (by rw [add_blk]; exact hab)
      obtain ⟨x0, x1, x2, x3, x4, x5, x6⟩ := hx
      have b2 := bel_mk wr (.cells (exA y (.slice A3 y.args.length c3)) 73)
      have HB2 := Lib.hid (hbr.trans (b2.mono hbz))
      have HCK := Lib.hid (pCheck_any _ zs d y A3 c3 (wr.alloc (.cells (exA y (.slice A3 y.args.length c3)) 73)) L2 0 (hxr.step HB2.out (Nat.le_refl _)) (HU.out.step b2 (Nat.le_refl _)))
      have HU2 := Lib.hid (HU.out.step b2 (Nat.le_refl _))
      have HO2 := Lib.hid (HO.out.alloc (.cells (exA y (.slice A3 y.args.length c3)) 73))
      have HW := Lib.hid (Own.new wr 73 (exA y (.slice A3 y.args.length c3)))
      have HCD := Lib.hid hcd
      clear hxc hxr hcd b2 HU HO
      unfold exA exV resV at *
      generalize chkT zs d y = P at *
      obtain ⟨pk, pe⟩ := P
      dsimp only at HCK HCD
      have g0 := HW.out.cell 0
      have g1 := HW.out.cell 1
      have g2 := HW.out.cell 2
      have g3 := HW.out.cell 3
      have g4 := HW.out.cell 4
      have g5 := HW.out.cell 5
      have g6 := HW.out.cell 6
      by_cases he0 : pe = 0
      rotate_left
      · have p0 : (pe != 0) = true := by simp [he0]
        have HF := Lib.hid (HCD.out.trans (if_pos he0))
        clear he0 HCD
        go_wp2_with fail
        with_reducible refine HCK.out.mono ?_
        rintro e w3 ⟨rfl, hb⟩
        go_wp2
        go_ret
        exact ⟨(by rw [HF.out]; try rfl), HB2.out.trans (hb.mono HB2.out.size)⟩
      subst he0
      have HCD := Lib.hid (HCD.out.trans (if_neg (fun h => h rfl)))
      by_cases hk3 : pk = 3
      · subst hk3
        have HF := Lib.hid (HCD.out.trans (if_neg (fun h => h.1 rfl)))
        clear HCD
        go_wp2_with fail
        with_reducible refine HCK.out.mono ?_
        rintro e w3 ⟨rfl, hb⟩
        have HU3 := Lib.hid (HU2.out.step hb (Nat.le_refl _))
        have HO3 := Lib.hid (HO2.out.below hb HO2.out.lt)
        have HB3 := Lib.hid (HB2.out.trans (hb.mono HB2.out.size))
        clear hb g0 g1 g2 g3 g4 g5 g6
        go_wp2
        go_roundw
        case rel => exact ⟨k + 1, by omega, by go_num, HF, HU3, HO3, HB3.out⟩
        case measure => simp [intOf]; omega
      by_cases hk0 : pk = 0
      · subst hk0
        have HF := Lib.hid (HCD.out.trans (if_neg (fun h => h.2 rfl)))
        clear HCD hk3
        go_wp2_with fail
        with_reducible refine HCK.out.mono ?_
        rintro e w3 ⟨rfl, hb⟩
        have HU3 := Lib.hid (HU2.out.step hb (Nat.le_refl _))
        have HO3 := Lib.hid (HO2.out.below hb HO2.out.lt)
        have HB3 := Lib.hid (HB2.out.trans (hb.mono HB2.out.size))
        clear hb g0 g1 g2 g3 g4 g5 g6
        go_wp2
        go_roundw
        case rel => exact ⟨k + 1, by omega, by go_num, HF, HU3, HO3, HB3.out⟩
        case measure => simp [intOf]; omega
      · have HF := Lib.hid (HCD.out.trans (if_pos ⟨hk3, hk0⟩))
        have k3 : (pk != 3) = true := by simp [hk3]
        have k0 : (pk != 0) = true := by simp [hk0]
        clear HCD hk3 hk0
        go_wp2_with fail
        with_reducible refine HCK.out.mono ?_
        rintro e w3 ⟨rfl, hb⟩
        go_wp2
        go_ret
        exact ⟨(by rw [HF.out]; try rfl), HB2.out.trans (hb.mono HB2.out.size)⟩
    · have hki : ¬ (k : Int) < es.length := by omega
      have HF := Lib.hid (show ckxE zs d es = 0 by rw [HR.out, List.drop_eq_nil_of_le (show es.length ≤ k by omega)]; rfl)
      go_wp2
      go_ret
      exact ⟨(by rw [HF.out]; try rfl), hbr⟩
end Go.Proofs.YteihjneeiojgaaaGreat
/-
  schema.Check over any table: what they answer. Conditions: the search's variable holds some number; lengths.
-/
namespace Go.Proofs.YteihjneeiojgaaaGreat
set_option maxRecDepth 100000
set_option linter.unusedVariables false
set_option linter.unusedSimpArgs false
open Go.RowKit

/-- What a table is answered. -/
def chkA (nm : List UInt8) (cs : List Cl) (ks : List Int) (fs : List Fk) (d : Nat) (es : List Ex) : Int :=
  if nameS nm = false then 1 else if clsE cs ≠ 0 then clsE cs else if keyE cs ks ≠ 0 then keyE cs ks else if frgE (cs.length : Nat) fs ≠ 0 then frgE (cs.length : Nat) fs else ckxE (cs.map kdC) d es
set_option maxRecDepth 100000 in
set_option maxHeartbeats 6400000 in
theorem pTabCheck_any (nm : ByteArray) (vc vk vf vx : Value) (cs : List Cl) (ks : List Int) (fs : List Fk) (es : List Ex) (d : Nat) (m : Int) (w : World) (L L2 L3 L4 : Nat) (hm : w.cell? ⟨0, 0, none⟩ = some (.int .i64 m)) (hc : RdK w L w.heap.size vc cs) (hk : RdI w L2 w.heap.size vk ks) (hf : RdF w L3 w.heap.size vf fs) (he : RdE w L4 w.heap.size (d + 1) vx es) (hlen : cs.length ≤ 1099511627776) :
    Calls Tryz.prog 21 #[.agg #[.string nm, vc, vk, vf, vx]] w fun e w' => e = .returned (.int .i64 (chkA nm.data.toList cs ks fs d es)) ∧ Below w.heap.size w w' := by
  have hm0 := World.block_lt_of_cell? w _ hm
  have b1 := bel_mark w (.cells #[.string nm, vc, vk, vf, vx] 27)
  have HO1 := Lib.hid ((Own.new w 27 #[.string nm, vc, vk, vf, vx]))
  have HN := Lib.hid (pName_any nm m _ ((b1.cell (p := ⟨0, 0, none⟩) hm0).trans hm))
  have H1 := Lib.hid (fun W (h : Below w.heap.size w W) => checkColumns_any vc cs m W L ((h.cell (p := ⟨0, 0, none⟩) hm0).trans hm) (hc.step h (Nat.le_refl _)))
  have H2 := Lib.hid (fun W (h : Below w.heap.size w W) => checkKey_any (.string nm) vc vk vf vx cs ks W L L2 (hc.step h (Nat.le_refl _)) (hk.step h (Nat.le_refl _)))
  have H3 := Lib.hid (fun W (h : Below w.heap.size w W) => (show Calls Tryz.prog 44 #[.agg #[.string nm, vc, vk, vf, vx]] W fun e w' => e = .returned (.int .i64 (frgE (cs.length : Nat) fs)) ∧ Below W.heap.size W w' from by
    obtain ⟨A, c, rfl, _, _⟩ := hc
    exact checkForeigns_any (.string nm) vk vf vx A c cs.length fs m W L3 ((h.cell (p := ⟨0, 0, none⟩) hm0).trans hm) (by omega) (hf.step h (Nat.le_refl _))))
  have H4 := Lib.hid (fun W (h : Below w.heap.size w W) => checkChecks_any (.string nm) vc vk vf vx cs es d W L L4 (hc.step h (Nat.le_refl _)) hlen (he.step h (Nat.le_refl _)))
  obtain ⟨d0, d1, d2, d3, d4⟩ := HO1.out.five
  have HB1 := Lib.hid b1
  have HX := Lib.hid (show chkA nm.data.toList cs ks fs d es = if nameS nm.data.toList = false then 1 else if clsE cs ≠ 0 then clsE cs else if keyE cs ks ≠ 0 then keyE cs ks else if frgE (cs.length : Nat) fs ≠ 0 then frgE (cs.length : Nat) fs else ckxE (cs.map kdC) d es from rfl)
  generalize chkA nm.data.toList cs ks fs d es = R at *
  generalize nameS nm.data.toList = bn at *
  generalize hce : clsE cs = ce at *
  generalize hke : keyE cs ks = ke at *
  generalize hfe : frgE (cs.length : Nat) fs = fe at *
  generalize hxe : ckxE (cs.map kdC) d es = xe at *
  clear b1 hc hk hf he hm hce hke hfe hxe
  cases bn
  · have HF := Lib.hid (HX.out.trans (if_pos rfl))
    go_enter Tryz.func21, Tryz.ntmps21
    go_wp2_with fail
    with_reducible refine HN.out.mono ?_
    rintro e w1 ⟨rfl, hb⟩
    go_wp2
    go_ret
    exact ⟨(by rw [HF.out]; try rfl), HB1.out.trans (hb.mono HB1.out.size)⟩
  have HX := Lib.hid (HX.out.trans (if_neg (by decide)))
  go_enter Tryz.func21, Tryz.ntmps21
  go_wp2_with fail
  with_reducible refine HN.out.mono ?_
  rintro e w1 ⟨rfl, hb⟩
  have HO2 := Lib.hid (HO1.out.below hb HO1.out.lt)
  have HB2 := Lib.hid (HB1.out.trans (hb.mono HB1.out.size))
  have h1 := H1.out w1 HB2.out
  clear HN H1 hb d0 d1 d2 d3 d4
  obtain ⟨d0, d1, d2, d3, d4⟩ := HO2.out.five
  by_cases q0 : ce = 0
  rotate_left
  · have HF := Lib.hid (HX.out.trans (if_pos q0))
    have c0 : (ce != 0) = true := by simp [q0]
    clear q0 HX
    go_wp2_with fail
    with_reducible refine h1.mono ?_
    rintro e w2 ⟨rfl, hb⟩
    go_wp2
    go_ret
    exact ⟨(by rw [HF.out]; try rfl), HB2.out.trans (hb.mono HB2.out.size)⟩
  have HX := Lib.hid (HX.out.trans (if_neg (fun h => h q0)))
  have c3 : (ce != 0) = false := by simp [q0]
  clear q0
  go_wp2_with fail
  with_reducible refine h1.mono ?_
  rintro e w2 ⟨rfl, hb⟩
  have HO3 := Lib.hid (HO2.out.below hb HO2.out.lt)
  have HB3 := Lib.hid (HB2.out.trans (hb.mono HB2.out.size))
  have h2 := H2.out w2 HB3.out
  clear h1 H2 hb d0 d1 d2 d3 d4
  obtain ⟨d0, d1, d2, d3, d4⟩ := HO3.out.five
  by_cases q0 : ke = 0
  rotate_left
  · have HF := Lib.hid (HX.out.trans (if_pos q0))
    have c0 : (ke != 0) = true := by simp [q0]
    clear q0 HX
    go_wp2_with fail
    with_reducible refine h2.mono ?_
    rintro e w3 ⟨rfl, hb⟩
    go_wp2
    go_ret
    exact ⟨(by rw [HF.out]; try rfl), HB3.out.trans (hb.mono HB3.out.size)⟩
  have HX := Lib.hid (HX.out.trans (if_neg (fun h => h q0)))
  have c4 : (ke != 0) = false := by simp [q0]
  clear q0
  go_wp2_with fail
  with_reducible refine h2.mono ?_
  rintro e w3 ⟨rfl, hb⟩
  have HO4 := Lib.hid (HO3.out.below hb HO3.out.lt)
  have HB4 := Lib.hid (HB3.out.trans (hb.mono HB3.out.size))
  have h3 := H3.out w3 HB4.out
  clear h2 H3 hb d0 d1 d2 d3 d4
  obtain ⟨d0, d1, d2, d3, d4⟩ := HO4.out.five
  by_cases q0 : fe = 0
  rotate_left
  · have HF := Lib.hid (HX.out.trans (if_pos q0))
    have c0 : (fe != 0) = true := by simp [q0]
    clear q0 HX
    go_wp2_with fail
    with_reducible refine h3.mono ?_
    rintro e w4 ⟨rfl, hb⟩
    go_wp2
    go_ret
    exact ⟨(by rw [HF.out]; try rfl), HB4.out.trans (hb.mono HB4.out.size)⟩
  have HX := Lib.hid (HX.out.trans (if_neg (fun h => h q0)))
  have c5 : (fe != 0) = false := by simp [q0]
  clear q0
  go_wp2_with fail
  with_reducible refine h3.mono ?_
  rintro e w4 ⟨rfl, hb⟩
  have HO5 := Lib.hid (HO4.out.below hb HO4.out.lt)
  have HB5 := Lib.hid (HB4.out.trans (hb.mono HB4.out.size))
  have h4 := H4.out w4 HB5.out
  clear h3 H4 hb d0 d1 d2 d3 d4
  obtain ⟨d0, d1, d2, d3, d4⟩ := HO5.out.five
  go_wp2_with fail
  with_reducible refine h4.mono ?_
  rintro e w5 ⟨rfl, hb⟩
  go_wp2
  go_ret
  exact ⟨(by rw [HX.out]; try rfl), HB5.out.trans (hb.mono HB5.out.size)⟩
end Go.Proofs.YteihjneeiojgaaaGreat
/-
  The reference's Words, in and Name: what they answer. Conditions: none.
-/
namespace Go.Proofs.YteihjneeiojgaaaGreat
set_option maxRecDepth 100000
set_option linter.unusedVariables false
set_option linter.unusedSimpArgs false
open Go.RowKit

def strV (l : List UInt8) : Value := .string ⟨l.toArray⟩
set_option maxRecDepth 100000 in
set_option maxHeartbeats 3200000 in
theorem words_any (w : World) : Calls Tryz.prog 52 #[] w fun e w' => e = .returned (.slice (some ⟨w.heap.size, 0, none⟩) 87 87) ∧ Own w' w.heap.size 9 (wordsL.map strV).toArray ∧ Below w.heap.size w w' := by
  go_enter Tryz.func52, Tryz.ntmps52
  go_wp2
  go_ret
  refine ⟨rfl, ?_, bel_mark w _⟩
  exact Own.new w _ _
set_option maxRecDepth 100000 in
set_option maxHeartbeats 3200000 in
theorem in_any (g : Nat) (ws : List (List UInt8)) (s : ByteArray) (w : World) (hl : ws.length ≤ 9223372036854775807) (ho : Own w g 9 (ws.map strV).toArray) :
    Calls Tryz.prog 51 #[.slice (some ⟨g, 0, none⟩) ws.length ws.length, .string s] w fun e w' => e = .returned (.bool (decide (s.data.toList ∈ ws))) ∧ Below w.heap.size w w' := by
  have HO := Lib.hid ho
  have hg := ho.lt
  clear ho
  go_enter Tryz.func51, Tryz.ntmps51
  go_wp2
  go_loopw [5] (fun i wr => ∃ k : Nat, k ≤ ws.length ∧ i = .int .i64 k ∧ Hid (decide (s.data.toList ∈ ws) = decide (s.data.toList ∈ ws.drop k)) ∧ Below w.heap.size w wr) (fun i _ => ws.length - (intOf i).toNat)
  case atStart => exact ⟨0, Nat.zero_le _, rfl, Lib.hid rfl, Below.refl _ _⟩
  case round =>
    obtain ⟨k, hk, rfl, HR, hbr⟩ := hrel
    have hbz := hbr.size
    by_cases hlt : k < ws.length
    · have hki : (k : Int) < ws.length := by omega
      have hcd : decide (s.data.toList ∈ ws) = (decide (s.data.toList = ws[k]) || decide (s.data.toList ∈ ws.drop (k + 1))) := by
        rw [HR.out, List.drop_eq_getElem_cons hlt, ← Bool.decide_or]
        exact decide_eq_decide.2 List.mem_cons
      have d0 : wr.cell? ⟨g, k, none⟩ = some (strV ws[k]) := ((HO.out.below hbr hg).cell k).trans (by simp [hlt])
      generalize ws[k] = q at *
      unfold strV at d0
      have HCD := Lib.hid hcd
      clear hcd
      by_cases hq : s.data.toList = q
      · have e0 : (q == s.toList) = true := by rw [Lib.toList_data, beq_iff_eq, hq]
        have e1 : ((⟨q.toArray⟩ : ByteArray).toList == s.toList) = true := by rw [Lib.toList_data, Lib.toList_data, beq_iff_eq, hq]
        have HF := Lib.hid (show decide (s.data.toList ∈ ws) = true by rw [HCD.out, decide_eq_true hq]; rfl)
        clear hq
        go_wp2
        go_ret
        exact ⟨by rw [HF.out]; rfl, hbr⟩
      · have e0 : (q == s.toList) = false := by rw [Lib.toList_data, beq_eq_false_iff_ne]; exact fun e => hq e.symm
        have e1 : ((⟨q.toArray⟩ : ByteArray).toList == s.toList) = false := by rw [Lib.toList_data, Lib.toList_data, beq_eq_false_iff_ne]; exact fun e => hq e.symm
        have HF := Lib.hid (show decide (s.data.toList ∈ ws) = decide (s.data.toList ∈ ws.drop (k + 1)) by rw [HCD.out, decide_eq_false hq]; rfl)
        clear hq
        go_wp2
        go_roundw
        case rel => exact ⟨k + 1, by omega, by go_num, HF, hbr⟩
        case measure => simp [intOf]; omega
    · have hki : ¬ (k : Int) < ws.length := by omega
      have HF := Lib.hid (show decide (s.data.toList ∈ ws) = false by rw [HR.out, List.drop_eq_nil_of_le (show ws.length ≤ k by omega)]; rfl)
      go_wp2
      go_ret
      exact ⟨by rw [HF.out]; rfl, hbr⟩
end Go.Proofs.YteihjneeiojgaaaGreat
/-
  The reference's Name: what it answers. Conditions: none.
-/
namespace Go.Proofs.YteihjneeiojgaaaGreat
set_option maxRecDepth 100000
set_option linter.unusedVariables false
set_option linter.unusedSimpArgs false
open Go.RowKit

set_option maxRecDepth 100000 in
set_option maxHeartbeats 6400000 in
theorem rName_any (s : ByteArray) (w : World) : Calls Tryz.prog 26 #[.string s] w fun e w' => e = .returned (.bool (nameS s.data.toList)) ∧ Below w.heap.size w w' := by
  have hls := size_list s
  by_cases h0 : s.size = 0
  · have he : s.toList.isEmpty = true := by rw [Lib.toList_data]; rw [List.isEmpty_iff]; exact List.eq_nil_of_length_eq_zero (by omega)
    have HF := Lib.hid (show nameS s.data.toList = false by unfold nameS; rw [show decide (0 < s.data.toList.length) = false from decide_eq_false (by omega)]; rfl)
    clear hls h0
    go_enter Tryz.func26, Tryz.ntmps26
    go_wp2
    go_ret
    exact ⟨by rw [HF.out]; rfl, Below.refl _ _⟩
  have hne : s.data.toList ≠ [] := fun h => by rw [h] at hls; exact h0 hls.symm
  have he : s.toList.isEmpty = false := by rw [Lib.toList_data]; rw [Bool.eq_false_iff]; intro h; rw [List.isEmpty_iff] at h; exact hne h
  by_cases h1 : 24 < s.size
  · have h1i : (24 : Int) < (s.size : Int) := by omega
    have HF := Lib.hid (show nameS s.data.toList = false by unfold nameS; rw [show decide (s.data.toList.length ≤ 24) = false from decide_eq_false (by omega)]; rw [Bool.and_false]; rfl)
    clear hls h0 h1 hne
    go_enter Tryz.func26, Tryz.ntmps26
    go_wp2
    go_ret
    exact ⟨by rw [HF.out]; rfl, Below.refl _ _⟩
  have h1i : ¬ (24 : Int) < (s.size : Int) := by omega
  have hp : 0 < s.size := by omega
  have hpi : (0 : Int) < s.size := by omega
  have hg0 : s.data.toList.getD 0 0 = s[0]'hp := by rw [List.getD_eq_getElem?_getD, getS_list s 0 hp]; rfl
  have HN := Lib.hid (show nameS s.data.toList = (!(digB (s[0]'hp)) && s.data.toList.all okcB && !(Lib.contains kwL ([32] ++ s.data.toList ++ [32]))) by
    unfold nameS
    rw [hg0, show decide (0 < s.data.toList.length) = true from decide_eq_true (by omega), show decide (s.data.toList.length ≤ 24) = true from decide_eq_true (by omega), Bool.true_and, Bool.true_and])
  have HD := Lib.hid (show digB (s[0]'hp) = (decide (48 ≤ (s[0]'hp).toNat) && decide ((s[0]'hp).toNat ≤ 57)) from rfl)
  have HNE := Lib.hid hne
  clear hg0 hne
  by_cases g1 : 48 ≤ (s[0]'hp).toNat
  · have g1i : (48 : Int) ≤ ((s[0]'hp).toNat : Int) := by omega
    by_cases g2 : (s[0]'hp).toNat ≤ 57
    · have g2i : ((s[0]'hp).toNat : Int) ≤ 57 := by omega
      have HF := Lib.hid (show nameS s.data.toList = false by rw [HN.out, HD.out, decide_eq_true g1, decide_eq_true g2]; rfl)
      clear g1 g2
      go_enter Tryz.func26, Tryz.ntmps26
      go_wp2
      go_ret
      exact ⟨by rw [HF.out]; rfl, Below.refl _ _⟩
    · have g2i : ¬ ((s[0]'hp).toNat : Int) ≤ 57 := by omega
      have HDG := Lib.hid (show digB (s[0]'hp) = false by rw [HD.out]; simp only [Bool.and_eq_false_iff, decide_eq_false_iff_not]; omega)
      have HN2 := Lib.hid (show nameS s.data.toList = (s.data.toList.all okcB && !(Lib.contains kwL ([32] ++ s.data.toList ++ [32]))) by rw [HN.out, HDG.out]; rfl)
      go_enter Tryz.func26, Tryz.ntmps26
      go_wp2_with fail
      go_loopw [3] (fun i wr => ∃ k : Nat, k ≤ s.size ∧ i = .int .i64 k ∧ Hid ((s.data.toList.take k).all okcB = true) ∧ w = wr) (fun i _ => s.size - (intOf i).toNat)
      case atStart => exact ⟨0, Nat.zero_le _, rfl, Lib.hid rfl, rfl⟩
      case round =>
        obtain ⟨k, hk, rfl, HA, rfl⟩ := hrel
        by_cases hlt : k < s.size
        · have hki : (k : Int) < s.size := by omega
          have hgl := getS_list s k hlt
          have hno : okcB (s[k]'hlt) = false → nameS s.data.toList = false := fun h => by
            rw [HN2.out]
            have h2 : s.data.toList.all okcB = false := by
              rw [Bool.eq_false_iff]
              intro h3
              rw [List.all_eq_true] at h3
              have h4 := h3 _ (List.mem_of_getElem? hgl)
              rw [h] at h4
              cases h4
            rw [h2]
            rfl
          have hyes : okcB (s[k]'hlt) = true → (s.data.toList.take (k + 1)).all okcB = true := fun h => by
            rw [List.take_add_one, hgl, List.all_append, HA.out, Bool.true_and, Option.toList_some, List.all_cons, List.all_nil, Bool.and_true]
            exact h
          have hok : okcB (s[k]'hlt) = (((decide (48 ≤ (s[k]'hlt).toNat) && decide ((s[k]'hlt).toNat ≤ 57)) || (decide (97 ≤ (s[k]'hlt).toNat) && decide ((s[k]'hlt).toNat ≤ 122))) || decide ((s[k]'hlt).toNat = 95)) := rfl
          rw [hok] at hno hyes
          have HNO := Lib.hid hno
          have HYES := Lib.hid hyes
          clear hgl hno hyes hok
          generalize hbn : ((s[k]'hlt).toNat) = bn at *
          by_cases a1 : 97 ≤ bn
          · have a1i : (97 : Int) ≤ (bn : Int) := by omega
            by_cases a2 : bn ≤ 122
            · have a2i : (bn : Int) ≤ 122 := by omega
              have HY := Lib.hid (HYES.out (by simp [a1, a2]))
              clear a1 a2
              go_wp2
              go_roundw
              case rel => exact ⟨k + 1, by omega, by go_num, HY, trivial⟩
              case measure => simp [intOf]; omega
            · have a2i : ¬ (bn : Int) ≤ 122 := by omega
              have a3i : (48 : Int) ≤ (bn : Int) := by omega
              have a4i : ¬ (bn : Int) ≤ 57 := by omega
              have a5i : ((bn : Int) == 95) = false := by rw [beq_eq_false_iff_ne]; omega
              have HF := Lib.hid (HNO.out (by simp; omega))
              clear a1 a2
              go_wp2
              go_ret
              exact ⟨by rw [HF.out]; rfl, Below.refl _ _⟩
          · have a1i : ¬ (97 : Int) ≤ (bn : Int) := by omega
            by_cases a3 : 48 ≤ bn
            · have a3i : (48 : Int) ≤ (bn : Int) := by omega
              by_cases a4 : bn ≤ 57
              · have a4i : (bn : Int) ≤ 57 := by omega
                have HY := Lib.hid (HYES.out (by simp [a3, a4]))
                clear a1 a3 a4
                go_wp2
                go_roundw
                case rel => exact ⟨k + 1, by omega, by go_num, HY, trivial⟩
                case measure => simp [intOf]; omega
              · have a4i : ¬ (bn : Int) ≤ 57 := by omega
                by_cases a5 : bn = 95
                · have a5i : ((bn : Int) == 95) = true := by rw [beq_iff_eq]; omega
                  have HY := Lib.hid (HYES.out (by simp [a5]))
                  clear a1 a3 a4 a5
                  go_wp2
                  go_roundw
                  case rel => exact ⟨k + 1, by omega, by go_num, HY, trivial⟩
                  case measure => simp [intOf]; omega
                · have a5i : ((bn : Int) == 95) = false := by rw [beq_eq_false_iff_ne]; omega
                  have HF := Lib.hid (HNO.out (by simp; omega))
                  clear a1 a3 a4 a5
                  go_wp2
                  go_ret
                  exact ⟨by rw [HF.out]; rfl, Below.refl _ _⟩
            · have a3i : ¬ (48 : Int) ≤ (bn : Int) := by omega
              have a5i : ((bn : Int) == 95) = false := by rw [beq_eq_false_iff_ne]; omega
              have HF := Lib.hid (HNO.out (by simp; omega))
              clear a1 a3
              go_wp2
              go_ret
              exact ⟨by rw [HF.out]; rfl, Below.refl _ _⟩
        · have hki : ¬ (k : Int) < s.size := by omega
          have HAL := Lib.hid (show s.data.toList.all okcB = true by have h := HA.out; rw [List.take_of_length_le (by omega)] at h; exact h)
          have HF := Lib.hid (show nameS s.data.toList = !(decide (s.data.toList ∈ wordsL)) by rw [HN2.out, HAL.out, kw_word _ HAL.out HNE.out]; rfl)
          have HW := Lib.hid (words_any w)
          go_wp2_with fail
          with_reducible refine HW.out.mono ?_
          rintro e w2 ⟨rfl, ho, hb2⟩
          have h3 := in_any w.heap.size wordsL s w2 (by decide +kernel) ho
          rw [show wordsL.length = 87 from by decide +kernel] at h3
          have HB2 := Lib.hid hb2
          clear HW ho hb2
          go_wp2_with fail
          with_reducible refine h3.mono ?_
          rintro e w3 ⟨rfl, hb3⟩
          go_wp2
          go_ret
          exact ⟨by rw [HF.out]; rfl, HB2.out.trans (hb3.mono HB2.out.size)⟩
  · have g1i : ¬ (48 : Int) ≤ ((s[0]'hp).toNat : Int) := by omega
    have HDG := Lib.hid (show digB (s[0]'hp) = false by rw [HD.out]; simp only [Bool.and_eq_false_iff, decide_eq_false_iff_not]; omega)
    have HN2 := Lib.hid (show nameS s.data.toList = (s.data.toList.all okcB && !(Lib.contains kwL ([32] ++ s.data.toList ++ [32]))) by rw [HN.out, HDG.out]; rfl)
    go_enter Tryz.func26, Tryz.ntmps26
    go_wp2_with fail
    go_loopw [3] (fun i wr => ∃ k : Nat, k ≤ s.size ∧ i = .int .i64 k ∧ Hid ((s.data.toList.take k).all okcB = true) ∧ w = wr) (fun i _ => s.size - (intOf i).toNat)
    case atStart => exact ⟨0, Nat.zero_le _, rfl, Lib.hid rfl, rfl⟩
    case round =>
      obtain ⟨k, hk, rfl, HA, rfl⟩ := hrel
      by_cases hlt : k < s.size
      · have hki : (k : Int) < s.size := by omega
        have hgl := getS_list s k hlt
        have hno : okcB (s[k]'hlt) = false → nameS s.data.toList = false := fun h => by
          rw [HN2.out]
          have h2 : s.data.toList.all okcB = false := by
            rw [Bool.eq_false_iff]
            intro h3
            rw [List.all_eq_true] at h3
            have h4 := h3 _ (List.mem_of_getElem? hgl)
            rw [h] at h4
            cases h4
          rw [h2]
          rfl
        have hyes : okcB (s[k]'hlt) = true → (s.data.toList.take (k + 1)).all okcB = true := fun h => by
          rw [List.take_add_one, hgl, List.all_append, HA.out, Bool.true_and, Option.toList_some, List.all_cons, List.all_nil, Bool.and_true]
          exact h
        have hok : okcB (s[k]'hlt) = (((decide (48 ≤ (s[k]'hlt).toNat) && decide ((s[k]'hlt).toNat ≤ 57)) || (decide (97 ≤ (s[k]'hlt).toNat) && decide ((s[k]'hlt).toNat ≤ 122))) || decide ((s[k]'hlt).toNat = 95)) := rfl
        rw [hok] at hno hyes
        have HNO := Lib.hid hno
        have HYES := Lib.hid hyes
        clear hgl hno hyes hok
        generalize hbn : ((s[k]'hlt).toNat) = bn at *
        by_cases a1 : 97 ≤ bn
        · have a1i : (97 : Int) ≤ (bn : Int) := by omega
          by_cases a2 : bn ≤ 122
          · have a2i : (bn : Int) ≤ 122 := by omega
            have HY := Lib.hid (HYES.out (by simp [a1, a2]))
            clear a1 a2
            go_wp2
            go_roundw
            case rel => exact ⟨k + 1, by omega, by go_num, HY, trivial⟩
            case measure => simp [intOf]; omega
          · have a2i : ¬ (bn : Int) ≤ 122 := by omega
            have a3i : (48 : Int) ≤ (bn : Int) := by omega
            have a4i : ¬ (bn : Int) ≤ 57 := by omega
            have a5i : ((bn : Int) == 95) = false := by rw [beq_eq_false_iff_ne]; omega
            have HF := Lib.hid (HNO.out (by simp; omega))
            clear a1 a2
            go_wp2
            go_ret
            exact ⟨by rw [HF.out]; rfl, Below.refl _ _⟩
        · have a1i : ¬ (97 : Int) ≤ (bn : Int) := by omega
          by_cases a3 : 48 ≤ bn
          · have a3i : (48 : Int) ≤ (bn : Int) := by omega
            by_cases a4 : bn ≤ 57
            · have a4i : (bn : Int) ≤ 57 := by omega
              have HY := Lib.hid (HYES.out (by simp [a3, a4]))
              clear a1 a3 a4
              go_wp2
              go_roundw
              case rel => exact ⟨k + 1, by omega, by go_num, HY, trivial⟩
              case measure => simp [intOf]; omega
            · have a4i : ¬ (bn : Int) ≤ 57 := by omega
              by_cases a5 : bn = 95
              · have a5i : ((bn : Int) == 95) = true := by rw [beq_iff_eq]; omega
                have HY := Lib.hid (HYES.out (by simp [a5]))
                clear a1 a3 a4 a5
                go_wp2
                go_roundw
                case rel => exact ⟨k + 1, by omega, by go_num, HY, trivial⟩
                case measure => simp [intOf]; omega
              · have a5i : ((bn : Int) == 95) = false := by rw [beq_eq_false_iff_ne]; omega
                have HF := Lib.hid (HNO.out (by simp; omega))
                clear a1 a3 a4 a5
                go_wp2
                go_ret
                exact ⟨by rw [HF.out]; rfl, Below.refl _ _⟩
          · have a3i : ¬ (48 : Int) ≤ (bn : Int) := by omega
            have a5i : ((bn : Int) == 95) = false := by rw [beq_eq_false_iff_ne]; omega
            have HF := Lib.hid (HNO.out (by simp; omega))
            clear a1 a3
            go_wp2
            go_ret
            exact ⟨by rw [HF.out]; rfl, Below.refl _ _⟩
      · have hki : ¬ (k : Int) < s.size := by omega
        have HAL := Lib.hid (show s.data.toList.all okcB = true by have h := HA.out; rw [List.take_of_length_le (by omega)] at h; exact h)
        have HF := Lib.hid (show nameS s.data.toList = !(decide (s.data.toList ∈ wordsL)) by rw [HN2.out, HAL.out, kw_word _ HAL.out HNE.out]; rfl)
        have HW := Lib.hid (words_any w)
        go_wp2_with fail
        with_reducible refine HW.out.mono ?_
        rintro e w2 ⟨rfl, ho, hb2⟩
        have h3 := in_any w.heap.size wordsL s w2 (by decide +kernel) ho
        rw [show wordsL.length = 87 from by decide +kernel] at h3
        have HB2 := Lib.hid hb2
        clear HW ho hb2
        go_wp2_with fail
        with_reducible refine h3.mono ?_
        rintro e w3 ⟨rfl, hb3⟩
        go_wp2
        go_ret
        exact ⟨by rw [HF.out]; rfl, HB2.out.trans (hb3.mono HB2.out.size)⟩
end Go.Proofs.YteihjneeiojgaaaGreat
