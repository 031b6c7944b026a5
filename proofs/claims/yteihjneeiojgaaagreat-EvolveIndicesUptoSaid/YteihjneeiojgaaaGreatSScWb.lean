import Derived.Test.YteihjneeiojgaaaGreatSScVa
import Derived.Test.YteihjneeiojgaaaGreatSScR
import Derived.Test.YteihjneeiojgaaaGreatSEoA
import Derived.WalkKit
import Derived.WalkSpells
import Derived.WalkLawsBesides
import Derived.Deep.QuietTactic
import Derived.BigQuiet
import Derived.Handy
import Derived.Lib.Hide
/-
  The reference's columns, key, foreign: what they answer. Conditions: lengths.
-/
namespace Go.Proofs.YteihjneeiojgaaaGreat
set_option maxRecDepth 100000
set_option linter.unusedVariables false
set_option linter.unusedSimpArgs false
open Go.RowKit

theorem beq_name (a b : ByteArray) : (a.toList == b.toList) = decide (a.data.toList = b.data.toList) := by
  rw [ByteArray.toList_eq, ByteArray.toList_eq]
  by_cases h : a.data.toList = b.data.toList
  · rw [h]; simp
  · rw [decide_eq_false h]; simpa using h
theorem findK_lo (s : ByteArray) : ∀ (l : List Cl) (j : Nat), findK s j l = -1 ∨ (j : Int) ≤ findK s j l
  | [], _ => .inl rfl
  | c :: cs, j => by
    unfold findK
    by_cases h : (c.1.toList == s.toList) = true
    · rw [if_pos h]; exact .inr (Int.le_refl _)
    · rw [if_neg h]
      rcases findK_lo s cs (j + 1) with h1 | h1
      · exact .inl h1
      · exact .inr (by omega)
theorem findK_has (s : ByteArray) : ∀ (l : List Cl) (j k : Nat) (c : Cl), l[k]? = some c → c.1.data.toList = s.data.toList →
    (j : Int) ≤ findK s j l ∧ findK s j l ≤ (j + k : Nat) ∧ (findK s j l < ((j + k : Nat) : Int) ↔ s.data.toList ∈ (l.take k).map nmC)
  | [], _, _, _, h, _ => by simp at h
  | c0 :: cs, j, 0, c, h, hs => by
    simp at h
    subst h
    unfold findK
    rw [if_pos (by rw [beq_name]; exact decide_eq_true hs)]
    refine ⟨Int.le_refl _, by simp, by simp⟩
  | c0 :: cs, j, k + 1, c, h, hs => by
    have h' : cs[k]? = some c := by simpa using h
    unfold findK
    by_cases h0 : (c0.1.toList == s.toList) = true
    · rw [if_pos h0]
      rw [beq_name] at h0
      have h1 := of_decide_eq_true h0
      refine ⟨Int.le_refl _, by omega, ⟨fun _ => ?_, fun _ => by omega⟩⟩
      rw [List.take_succ_cons, List.map_cons]
      exact List.mem_cons.2 (.inl h1.symm)
    · rw [if_neg h0]
      rw [beq_name] at h0
      have h1 : ¬ c0.1.data.toList = s.data.toList := fun e => h0 (decide_eq_true e)
      obtain ⟨g1, g2, g3⟩ := findK_has s cs (j + 1) k c h' hs
      rw [show j + 1 + k = j + (k + 1) by omega] at g2 g3
      refine ⟨by omega, g2, g3.trans ?_⟩
      rw [List.take_succ_cons, List.map_cons, List.mem_cons]
      exact ⟨.inr, fun h => h.elim (fun e => absurd e.symm h1) id⟩
set_option maxRecDepth 100000 in
set_option maxHeartbeats 12800000 in
theorem rTColumns_any (nm vc vk vf vx : Value) (cs : List Cl) (w : World) (L : Nat) (hc : RdK w L w.heap.size vc cs) :
    Calls Tryz.prog 38 #[.agg #[nm, vc, vk, vf, vx]] w fun e w' => e = .returned (.int .i64 (clsE cs)) ∧ Below w.heap.size w w' := by
  have HK := Lib.hid hc
  obtain ⟨A, c, rfl, hl1, hc1⟩ := hc
  have HC := Lib.hid hc1
  have HB1 := Lib.hid (bel_mark w (.cells #[nm, .slice A cs.length c, vk, vf, vx] 27))
  have HO1 := Lib.hid (Own.new w 27 #[nm, .slice A cs.length c, vk, vf, vx])
  have d1 := HO1.out.cell 1
  clear hc1
  by_cases hz : cs.length = 0
  · have hzi : ((cs.length : Int) < 1) := by omega
    have HF := Lib.hid (show clsE cs = 13 from if_pos (.inl hz))
    clear hz
    go_enter Tryz.func38, Tryz.ntmps38
    go_wp2
    go_ret
    exact ⟨(by rw [HF.out]; try rfl), HB1.out⟩
  have hzi : ¬ ((cs.length : Int) < 1) := by omega
  by_cases hx : 12 < cs.length
  · have hxi : (12 : Int) < cs.length := by omega
    have HF := Lib.hid (show clsE cs = 13 from if_pos (.inr hx))
    clear hz hx
    go_enter Tryz.func38, Tryz.ntmps38
    go_wp2
    go_ret
    exact ⟨(by rw [HF.out]; try rfl), HB1.out⟩
  have hxi : ¬ (12 : Int) < cs.length := by omega
  have HE := Lib.hid (show clsE cs = colL ((cs.take 0).map nmC) (cs.drop 0) from if_neg (fun h => h.elim hz hx))
  clear hz hx
  go_enter Tryz.func38, Tryz.ntmps38
  go_wp2_with fail
  go_loopw [3] (fun i wr => ∃ k : Nat, k ≤ cs.length ∧ i = .int .i64 k ∧ Hid (clsE cs = colL ((cs.take k).map nmC) (cs.drop k)) ∧ Hid (Own wr w.heap.size 27 #[nm, .slice A cs.length c, vk, vf, vx]) ∧ Below w.heap.size w wr) (fun i _ => cs.length - (intOf i).toNat)
  case atStart => exact ⟨0, Nat.zero_le _, rfl, HE, HO1, HB1.out⟩
  case round =>
    clear HE HO1 HB1 d1
    obtain ⟨k, hk, rfl, HR, HO, hbr⟩ := hrel
    have hbz := hbr.size
    obtain ⟨d0, d1, d2, d3, d4⟩ := HO.out.five
    by_cases hlt : k < cs.length
    · have hki : (k : Int) < cs.length := by omega
      obtain ⟨ad, rfl, _, hab, a0, a1, a2⟩ := HC.out k _ (List.getElem?_eq_getElem hlt)
      have hcd := colL_drop (List.getElem?_eq_getElem hlt)
      rw [← HR.out] at hcd
      have hfd := findK_has cs[k].1 cs 0 k _ (List.getElem?_eq_getElem hlt) rfl
      rw [Nat.zero_add] at hfd
      generalize cs[k] = q at *
      obtain ⟨qn, qk, qb⟩ := q
      dsimp only at a0 a1 a2 hfd
      replace hcd : clsE cs = if nameS qn.data.toList = false then 1 else if qk < 1 ∨ 3 < qk then 7 else if qn.data.toList ∈ (cs.take k).map nmC then 10 else colL ((cs.take (k + 1)).map nmC) (cs.drop (k + 1)) := hcd
      have e0 := (hbr.cell (p := ad.add (k * 3)) (by rw [add_block]; exact hab)).trans a0
      have e1 := (hbr.cell (p := ⟨(ad.add (k * 3)).block, (ad.add (k * 3)).off + 1, none⟩) (by show (ad.add (k * 3)).block < _; rw [add_block]; exact hab)).trans a1
      have e2 := (hbr.cell (p := ⟨(ad.add (k * 3)).block, (ad.add (k * 3)).off + 2, none⟩) (by show (ad.add (k * 3)).block < _; rw [add_block]; exact hab)).trans a2
      have BOXS : ∀ W : World, Own W wr.heap.size 29 #[.string qn, .int .i64 qk, .bool qb] → W.cell? ⟨wr.heap.size, 0, none⟩ = some (.string qn) ∧ W.cell? ⟨wr.heap.size, 1, none⟩ = some (.int .i64 qk) ∧ W.cell? ⟨wr.heap.size, 2, none⟩ = some (.bool qb) := fun W h => ⟨h.cell 0, h.cell 1, h.cell 2⟩
      have HN := Lib.hid (fun W => rName_any qn W)
      have HFI := Lib.hid (fun (W : World) (hb : Below w.heap.size w W) => rFind_any nm (.slice (some ad) cs.length c) vk vf vx cs qn W L (HK.out.step hb (Nat.le_refl _)))
      have HCD := Lib.hid hcd
      have HFD := Lib.hid hfd
      have HBOX := Lib.hid BOXS
      clear a0 a1 a2 hcd hfd BOXS
      have o1 := bel_mark wr (.cells #[.string qn, .int .i64 qk, .bool qb] 29)
      have HW1 := Lib.hid (Own.new wr 29 #[.string qn, .int .i64 qk, .bool qb])
      have HB2 := Lib.hid (hbr.trans (o1.mono hbz))
      have HO2 := Lib.hid (HO.out.alloc (.cells #[.string qn, .int .i64 qk, .bool qb] 29))
      clear o1 HO HBOX
      cases hn : nameS qn.data.toList
      · have HNF := Lib.hid (show ∀ W, Calls Tryz.prog 26 #[.string qn] W fun e w' => e = .returned (.bool false) ∧ Below W.heap.size W w' from fun W => by have h := HN.out W; rwa [hn] at h)
        have HF := Lib.hid (HCD.out.trans (if_pos hn))
        clear hn HCD HN HFI
        go_wp2_with fail
        with_reducible refine (HNF.out _).mono ?_
        rintro e w2 ⟨rfl, hb⟩
        go_wp2
        go_ret
        exact ⟨(by rw [HF.out]; try rfl), HB2.out.trans (hb.mono HB2.out.size)⟩
      have HNF := Lib.hid (show ∀ W, Calls Tryz.prog 26 #[.string qn] W fun e w' => e = .returned (.bool true) ∧ Below W.heap.size W w' from fun W => by have h := HN.out W; rwa [hn] at h)
      have HCD := Lib.hid (HCD.out.trans (if_neg (fun h => by rw [hn] at h; cases h)))
      clear hn HN
      go_wp2_with fail
      with_reducible refine (HNF.out _).mono ?_
      rintro e w2 ⟨rfl, hb⟩
      have HW3 := Lib.hid (HW1.out.below hb HW1.out.lt)
      have HO3 := Lib.hid (HO2.out.below hb HO2.out.lt)
      have HB3 := Lib.hid (HB2.out.trans (hb.mono HB2.out.size))
      have hfi := HFI.out w2 HB3.out
      clear HW1 HO2 HB2 hb HFI HNF d0 d1 d2 d3 d4 e0 e1 e2
      have g0 := HW3.out.cell 0
      have g1 := HW3.out.cell 1
      by_cases hk1 : qk < 1
      · have HF := Lib.hid (HCD.out.trans (if_pos (.inl hk1)))
        clear HCD hfi
        go_wp2
        go_ret
        exact ⟨(by rw [HF.out]; try rfl), HB3.out⟩
      by_cases hk3 : 3 < qk
      · have HF := Lib.hid (HCD.out.trans (if_pos (.inr hk3)))
        clear HCD hfi
        go_wp2
        go_ret
        exact ⟨(by rw [HF.out]; try rfl), HB3.out⟩
      have HCD := Lib.hid (HCD.out.trans (if_neg (fun h => h.elim hk1 hk3)))
      obtain ⟨d0, d1, d2, d3, d4⟩ := HO3.out.five
      generalize findK qn 0 cs = fi at *
      have HFI2 := Lib.hid hfi
      clear hfi
      by_cases hmem : qn.data.toList ∈ (cs.take k).map nmC
      · have HF := Lib.hid (HCD.out.trans (if_pos hmem))
        have hlk : fi < (k : Int) := HFD.out.2.2.2 hmem
        clear HCD hmem HFD
        go_wp2_with fail
        with_reducible refine HFI2.out.mono ?_
        rintro e w3 ⟨rfl, hb⟩
        go_wp2
        go_ret
        exact ⟨(by rw [HF.out]; try rfl), HB3.out.trans (hb.mono HB3.out.size)⟩
      · have HF := Lib.hid (HCD.out.trans (if_neg hmem))
        have hlk : ¬ fi < (k : Int) := fun h => hmem (HFD.out.2.2.1 h)
        clear HCD hmem HFD
        go_wp2_with fail
        with_reducible refine HFI2.out.mono ?_
        rintro e w3 ⟨rfl, hb⟩
        have HO4 := Lib.hid (HO3.out.below hb HO3.out.lt)
        have HB4 := Lib.hid (HB3.out.trans (hb.mono HB3.out.size))
        clear hb g0 g1 d0 d1 d2 d3 d4
        go_wp2
        go_roundw
        case rel => exact ⟨k + 1, by omega, by go_num, HF, HO4, HB4.out⟩
        case measure => simp [intOf]; omega
    · have hki : ¬ (k : Int) < cs.length := by omega
      have HF := Lib.hid (show clsE cs = 0 by rw [HR.out, List.drop_eq_nil_of_le (show cs.length ≤ k by omega)]; rfl)
      go_wp2
      go_ret
      exact ⟨(by rw [HF.out]; try rfl), hbr⟩
/-- An index of a table's column. -/
def exiB (n : Nat) (i : Int) : Bool := decide (0 ≤ i) && decide (i < n)
set_option maxRecDepth 100000 in
set_option maxHeartbeats 3200000 in
theorem rExists_any (nm vk vf vx : Value) (A : Option Addr) (n c : Nat) (i : Int) (w : World) :
    Calls Tryz.prog 70 #[.agg #[nm, .slice A n c, vk, vf, vx], .int .i64 i] w fun e w' => e = .returned (.bool (exiB n i)) ∧ Below w.heap.size w w' := by
  have HB1 := Lib.hid (bel_mark w (.cells #[nm, .slice A n c, vk, vf, vx] 27))
  have d1 := (Own.new w 27 #[nm, .slice A n c, vk, vf, vx]).cell 1
  unfold exiB
  by_cases h0 : 0 ≤ i
  · by_cases h1 : i < n
    · rw [decide_eq_true h0, decide_eq_true h1]
      go_enter Tryz.func70, Tryz.ntmps70
      go_wp2
      go_ret
      exact ⟨rfl, HB1.out⟩
    · rw [decide_eq_true h0, decide_eq_false h1]
      go_enter Tryz.func70, Tryz.ntmps70
      go_wp2
      go_ret
      exact ⟨rfl, HB1.out⟩
  · rw [decide_eq_false h0]
    go_enter Tryz.func70, Tryz.ntmps70
    go_wp2
    go_ret
    exact ⟨rfl, HB1.out⟩
end Go.Proofs.YteihjneeiojgaaaGreat
