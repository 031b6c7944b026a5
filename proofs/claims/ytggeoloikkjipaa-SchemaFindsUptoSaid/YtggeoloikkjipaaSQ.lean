import Derived.Test.YtggeoloikkjipaaSW
import Derived.Laws.OwnMore
import Derived.WalkKit
import Derived.WalkSpells
import Derived.WalkLawsBesides
import Derived.Deep.QuietTactic
import Derived.BigQuiet
import Derived.Handy
import Derived.Lib.Hide
import Derived.Test.YtggeoloikkjipaaMT
/-
  Find of both, the reference's Ints and Kinds. Conditions: lengths.
-/
namespace Go.Proofs.Ytggeoloikkjipaa
set_option linter.unusedVariables false
set_option linter.unusedSimpArgs false
set_option linter.unusedVariables false
set_option linter.unusedSimpArgs false
set_option linter.unusedVariables false
set_option linter.unusedSimpArgs false
set_option linter.unusedVariables false
set_option linter.unusedSimpArgs false
set_option maxRecDepth 100000
open Go.RowKit

/-- The first column of a name, counted from k; or -1. -/
def findK (s : ByteArray) : Nat → List Cl → Int
  | _, [] => -1
  | k, c :: cs => if (c.1.toList == s.toList) = true then (k : Int) else findK s (k + 1) cs
theorem findK_drop (s : ByteArray) {cs : List Cl} {k : Nat} {c : Cl} (h : cs[k]? = some c) : findK s k (cs.drop k) = if (c.1.toList == s.toList) = true then (k : Int) else findK s (k + 1) (cs.drop (k + 1)) := by
  obtain ⟨h1, rfl⟩ := List.getElem?_eq_some_iff.1 h
  rw [List.drop_eq_getElem_cons h1]
  rfl
set_option maxRecDepth 100000 in
set_option maxHeartbeats 1600000 in
theorem find1_any (qn : ByteArray) (qk : Int) (qb : Bool) (s : ByteArray) (g : Nat) (w : World) (hs : w.cell? ⟨g, 0, none⟩ = some (.string s)) :
    Calls Try.prog 95 #[.agg #[.string qn, .int .i64 qk, .bool qb], .pointer (some ⟨g, 0, none⟩)] w fun e w' => e = .returned (.bool (qn.toList == s.toList)) ∧ Below w.heap.size w w' := by
  have b1 := bel_mark w (.cells #[.string qn, .int .i64 qk, .bool qb] 56)
  have d0 := (Own.new w 56 #[.string qn, .int .i64 qk, .bool qb]).cell 0
  have e0 := (b1.cell (p := ⟨g, 0, none⟩) (World.block_lt_of_cell? w _ hs)).trans hs
  have B1 := Lib.hid b1
  clear b1 hs
  go_enter Try.func95, Try.ntmps95
  go_wp2
  go_ret
  exact ⟨rfl, B1.out⟩
set_option maxRecDepth 100000 in
set_option maxHeartbeats 3200000 in
theorem indexFunc_any (vc : Value) (cs : List Cl) (s : ByteArray) (g : Nat) (w : World) (L : Nat) (hc : RdK w L w.heap.size vc cs) (hs : w.cell? ⟨g, 0, none⟩ = some (.string s)) :
    Calls Try.prog 94 #[vc, .func (.func 95) #[] #[.pointer (some ⟨g, 0, none⟩)]] w fun e w' => e = .returned (.int .i64 (findK s 0 cs)) ∧ Below w.heap.size w w' := by
  obtain ⟨A, c, rfl, hl1, hc1⟩ := hc
  have HC := Lib.hid hc1
  have HS := Lib.hid hs
  have hg0 := World.block_lt_of_cell? w _ hs
  clear hc1 hs
  go_enter Try.func94, Try.ntmps94
  go_wp2
  go_loopw [8] (fun i wr => ∃ k : Nat, k ≤ cs.length ∧ i = .int .i64 k ∧ Hid (findK s 0 cs = findK s k (cs.drop k)) ∧ Below w.heap.size w wr) (fun i _ => cs.length - (intOf i).toNat)
  case atStart => exact ⟨0, Nat.zero_le _, rfl, Lib.hid rfl, Below.refl _ _⟩
  case round =>
    obtain ⟨k, hk, rfl, HR, hbr⟩ := hrel
    have hbz := hbr.size
    by_cases hlt : k < cs.length
    · have hki : (k : Int) < cs.length := by omega
      obtain ⟨ad, rfl, _, hab, a0, a1, a2⟩ := HC.out k _ (List.getElem?_eq_getElem hlt)
      have hcd := findK_drop s (List.getElem?_eq_getElem hlt)
      rw [← HR.out] at hcd
      generalize cs[k] = q at *
      obtain ⟨qn, qk, qb⟩ := q
      dsimp only at a0 a1 a2 hcd
      have e0 := (hbr.cell (p := ad.add (k * 3)) (by rw [add_block]; exact hab)).trans a0
      have e1 := (hbr.cell (p := ⟨(ad.add (k * 3)).block, (ad.add (k * 3)).off + 1, none⟩) (by show (ad.add (k * 3)).block < _; rw [add_block]; exact hab)).trans a1
      have e2 := (hbr.cell (p := ⟨(ad.add (k * 3)).block, (ad.add (k * 3)).off + 2, none⟩) (by show (ad.add (k * 3)).block < _; rw [add_block]; exact hab)).trans a2
      have H1 := Lib.hid (find1_any qn qk qb s g wr ((hbr.cell (p := ⟨g, 0, none⟩) hg0).trans HS.out))
      clear a0 a1 a2
      cases hb : (qn.toList == s.toList)
      · rw [hb] at H1
        have HF := Lib.hid (hcd.trans (if_neg (by rw [hb]; decide)))
        clear hb hcd
        go_wp2_with fail
        with_reducible refine H1.out.mono ?_
        rintro e w2 ⟨rfl, hb2⟩
        go_wp2
        go_roundw
        case rel => exact ⟨k + 1, by omega, by go_num, HF, hbr.trans (hb2.mono hbz)⟩
        case measure => simp [intOf]; omega
      · rw [hb] at H1
        have HF := Lib.hid (hcd.trans (if_pos hb))
        clear hb hcd
        go_wp2_with fail
        with_reducible refine H1.out.mono ?_
        rintro e w2 ⟨rfl, hb2⟩
        go_wp2
        go_ret
        exact ⟨by rw [HF.out]; rfl, hbr.trans (hb2.mono hbz)⟩
    · have hki : ¬ (k : Int) < cs.length := by omega
      have HF := Lib.hid (show findK s 0 cs = -1 by rw [HR.out, List.drop_eq_nil_of_le (show cs.length ≤ k by omega)]; rfl)
      go_wp2
      go_ret
      exact ⟨by rw [HF.out]; rfl, hbr⟩
set_option maxRecDepth 100000 in
set_option maxHeartbeats 1600000 in
theorem pFind_any (nm vc vk vf vx : Value) (cs : List Cl) (s : ByteArray) (w : World) (L : Nat) (hc : RdK w L w.heap.size vc cs) :
    Calls Try.prog 32 #[.agg #[nm, vc, vk, vf, vx], .string s] w fun e w' => e = .returned (.int .i64 (findK s 0 cs)) ∧ Below w.heap.size w w' := by
  have b1 := bel_mark w (.cells #[nm, vc, vk, vf, vx] 42)
  have b2 := b1.trans ((bel_mark _ (.cells #[.string s] 9)).mono b1.size)
  have d1 := ((Own.new w 42 #[nm, vc, vk, vf, vx]).alloc (.cells #[.string s] 9)).cell 1
  have H := Lib.hid (indexFunc_any vc cs s (w.heap.size + 1) ((w.alloc (.cells #[nm, vc, vk, vf, vx] 42)).alloc (.cells #[.string s] 9)) L (hc.step b2 (Nat.le_refl _)) ((own_two2 (w := w) (t := 9) (cs := #[.string s]) (.cells #[nm, vc, vk, vf, vx] 42)).cell 0))
  have B2 := Lib.hid b2
  clear b1 b2 hc
  go_enter Try.func32, Try.ntmps32
  go_wp2_with fail
  with_reducible refine H.out.mono ?_
  rintro e w2 ⟨rfl, hb2⟩
  go_wp2
  go_ret
  exact ⟨rfl, B2.out.trans (hb2.mono B2.out.size)⟩
set_option maxRecDepth 100000 in
set_option maxHeartbeats 3200000 in
theorem rFind_any (nm vc vk vf vx : Value) (cs : List Cl) (s : ByteArray) (w : World) (L : Nat) (hc : RdK w L w.heap.size vc cs) :
    Calls Try.prog 114 #[.agg #[nm, vc, vk, vf, vx], .string s] w fun e w' => e = .returned (.int .i64 (findK s 0 cs)) ∧ Below w.heap.size w w' := by
  obtain ⟨A, c, rfl, hl1, hc1⟩ := hc
  have HC := Lib.hid hc1
  have b1 := bel_mark w (.cells #[nm, .slice A cs.length c, vk, vf, vx] 42)
  have HO := Lib.hid (Own.new w 42 #[nm, .slice A cs.length c, vk, vf, vx])
  have B1 := Lib.hid b1
  clear hc1 b1
  go_enter Try.func114, Try.ntmps114
  go_wp2
  go_loopw [5] (fun i wr => ∃ k : Nat, k ≤ cs.length ∧ i = .int .i64 k ∧ Hid (findK s 0 cs = findK s k (cs.drop k)) ∧ Hid (Own wr w.heap.size 42 #[nm, .slice A cs.length c, vk, vf, vx]) ∧ Below w.heap.size w wr) (fun i _ => cs.length - (intOf i).toNat)
  case atStart => exact ⟨0, Nat.zero_le _, rfl, Lib.hid rfl, HO, B1.out⟩
  case round =>
    obtain ⟨k, hk, rfl, HR, HO2, hbr⟩ := hrel
    have hbz := hbr.size
    have d1 := HO2.out.cell 1
    by_cases hlt : k < cs.length
    · have hki : (k : Int) < cs.length := by omega
      obtain ⟨ad, rfl, _, hab, a0, a1, a2⟩ := HC.out k _ (List.getElem?_eq_getElem hlt)
      have hcd := findK_drop s (List.getElem?_eq_getElem hlt)
      rw [← HR.out] at hcd
      generalize cs[k] = q at *
      obtain ⟨qn, qk, qb⟩ := q
      dsimp only at a0 a1 a2 hcd
      have e0 := (hbr.cell (p := ad.add (k * 3)) (by rw [add_block]; exact hab)).trans a0
      clear a0 a1 a2
      cases hb : (qn.toList == s.toList)
      · have HF := Lib.hid (hcd.trans (if_neg (by rw [hb]; decide)))
        clear hcd
        go_wp2
        go_roundw
        case rel => exact ⟨k + 1, by omega, by go_num, HF, HO2, hbr⟩
        case measure => simp [intOf]; omega
      · have HF := Lib.hid (hcd.trans (if_pos hb))
        clear hcd
        go_wp2
        go_ret
        exact ⟨by rw [HF.out]; rfl, hbr⟩
    · have hki : ¬ (k : Int) < cs.length := by omega
      have HF := Lib.hid (show findK s 0 cs = -1 by rw [HR.out, List.drop_eq_nil_of_le (show cs.length ≤ k by omega)]; rfl)
      go_wp2
      go_ret
      exact ⟨by rw [HF.out]; rfl, hbr⟩
end Go.Proofs.Ytggeoloikkjipaa
/-
  The reference's Ints and Kinds; Key of both. Conditions: lengths.
-/
namespace Go.Proofs.Ytggeoloikkjipaa
set_option linter.unusedVariables false
set_option linter.unusedSimpArgs false
set_option linter.unusedVariables false
set_option linter.unusedSimpArgs false
set_option linter.unusedVariables false
set_option linter.unusedSimpArgs false
set_option linter.unusedVariables false
set_option linter.unusedSimpArgs false
set_option maxRecDepth 100000
open Go.RowKit

theorem int_drop {xs ys : List Int} {k : Nat} {a b : Int} (ha : xs[k]? = some a) (hb : ys[k]? = some b) : decide (xs.drop k = ys.drop k) = ((a == b) && decide (xs.drop (k + 1) = ys.drop (k + 1))) := by
  obtain ⟨h1, rfl⟩ := List.getElem?_eq_some_iff.1 ha
  obtain ⟨h2, rfl⟩ := List.getElem?_eq_some_iff.1 hb
  rw [Bool.eq_iff_iff, decide_eq_true_iff, Bool.and_eq_true, beq_iff_eq, decide_eq_true_iff, List.drop_eq_getElem_cons h1, List.drop_eq_getElem_cons h2]
  exact List.cons_eq_cons
set_option maxRecDepth 100000 in
set_option maxHeartbeats 3200000 in
theorem rInts_any (u v : Value) (xs ys : List Int) (w : World) (L L2 : Nat) (hu : RdI w L w.heap.size u xs) (hv : RdI w L2 w.heap.size v ys) :
    Calls Try.prog 85 #[u, v] w fun e w' => e = .returned (.bool (decide (xs = ys))) ∧ Below w.heap.size w w' := by
  obtain ⟨A, c, rfl, hl1, hc1⟩ := hu
  obtain ⟨A2, c2, rfl, hl2, hc2⟩ := hv
  have HC := Lib.hid hc1
  have HC2 := Lib.hid hc2
  clear hc1 hc2
  by_cases hln : xs.length = ys.length
  rotate_left
  · have hne : ((xs.length : Int) != (ys.length : Int)) = true := by rw [bne_iff_ne]; omega
    have HF := Lib.hid (show decide (xs = ys) = false by rw [decide_eq_false_iff_not]; intro e; rw [e] at hln; exact hln rfl)
    clear hln
    go_enter Try.func85, Try.ntmps85
    go_wp2
    go_ret
    exact ⟨by rw [HF.out]; rfl, Below.refl _ _⟩
  have hne : ((xs.length : Int) != (ys.length : Int)) = false := by rw [bne_eq_false_iff_eq]; omega
  have HLN := Lib.hid hln
  clear hln
  go_enter Try.func85, Try.ntmps85
  go_wp2
  go_loopw [5] (fun i wr => ∃ k : Nat, k ≤ xs.length ∧ i = .int .i64 k ∧ Hid (decide (xs = ys) = decide (xs.drop k = ys.drop k)) ∧ Below w.heap.size w wr) (fun i _ => xs.length - (intOf i).toNat)
  case atStart => exact ⟨0, Nat.zero_le _, rfl, Lib.hid rfl, Below.refl _ _⟩
  case round =>
    obtain ⟨k, hk, rfl, HR, hbr⟩ := hrel
    have hbz := hbr.size
    by_cases hlt : k < xs.length
    · have hki : (k : Int) < xs.length := by omega
      have hlt2 : k < ys.length := by have := HLN.out; omega
      have hki2 : (k : Int) < ys.length := by omega
      obtain ⟨ad, rfl, _, hab, c0⟩ := HC.out k _ (List.getElem?_eq_getElem hlt)
      obtain ⟨ad2, rfl, _, hab2, b0⟩ := HC2.out k _ (List.getElem?_eq_getElem hlt2)
      have hcd := int_drop (List.getElem?_eq_getElem hlt) (List.getElem?_eq_getElem hlt2)
      rw [← HR.out] at hcd
      generalize xs[k] = a at *
      generalize ys[k] = b at *
      have d0 := (hbr.cell (p := ad.add k) (by rw [add_block]; exact hab)).trans c0
      have f0 := (hbr.cell (p := ad2.add k) (by rw [add_block]; exact hab2)).trans b0
      have x0 : ∀ r : After wr, r.w.cell? (ad.add k) = some (.int .i64 a) := after_cell (by rw [add_block]; omega) d0
      have x1 : ∀ r : After wr, r.w.cell? (ad2.add k) = some (.int .i64 b) := after_cell (by rw [add_block]; omega) f0
      have HCD := Lib.hid hcd
      clear c0 b0 d0 f0 hcd
      by_cases hab3 : a = b
      · have n0 : (a != b) = false := by simp [hab3]
        have HF := Lib.hid (show decide (xs = ys) = decide (xs.drop (k + 1) = ys.drop (k + 1)) by rw [HCD.out, show (a == b) = true by simp [hab3]]; rfl)
        clear hab3 HCD
        go_wp2_with fail
        (refine wp_region_after (by kernel_rfl) (by kernel_rfl) ?_; (repeat (go_big_quiet_step (fail))); refine wpQuiet_nil ?_; intro wq hw0; obtain ⟨⟨wq0, hbq⟩, hw1⟩ := hw0; subst hw1; (try dsimp only))
        clear x0 x1
        go_wp2
        go_roundw
        case rel => exact ⟨k + 1, by omega, by go_num, HF, hbr.trans (hbq.mono hbz)⟩
        case measure => simp [intOf]; omega
      · have n0 : (a != b) = true := by simp [hab3]
        have HF := Lib.hid (show decide (xs = ys) = false by rw [HCD.out, show (a == b) = false by simp [hab3]]; rfl)
        clear hab3 HCD
        go_wp2_with fail
        (refine wp_region_after (by kernel_rfl) (by kernel_rfl) ?_; (repeat (go_big_quiet_step (fail))); refine wpQuiet_nil ?_; intro wq hw0; obtain ⟨⟨wq0, hbq⟩, hw1⟩ := hw0; subst hw1; (try dsimp only))
        clear x0 x1
        go_wp2
        go_ret
        exact ⟨by rw [HF.out]; rfl, hbr.trans (hbq.mono hbz)⟩
    · have hki : ¬ (k : Int) < xs.length := by omega
      have HF := Lib.hid (show decide (xs = ys) = true by rw [HR.out, List.drop_eq_nil_of_le (by omega), List.drop_eq_nil_of_le (by have := HLN.out; omega)]; rfl)
      go_wp2
      go_ret
      exact ⟨by rw [HF.out]; rfl, hbr⟩
set_option maxRecDepth 100000 in
set_option maxHeartbeats 3200000 in
theorem rKinds_any (nm vc vk vf vx : Value) (cs : List Cl) (w : World) (L : Nat) (hc : RdK w L w.heap.size vc cs) (hlen : cs.length ≤ 1099511627776) :
    Calls Try.prog 118 #[.agg #[nm, vc, vk, vf, vx]] w fun e w' => ∃ u, e = .returned u ∧ RdI w' 0 w'.heap.size u (cs.map kdC) ∧ Below w.heap.size w w' := by
  obtain ⟨A, c, rfl, hl1, hc1⟩ := hc
  have HC := Lib.hid hc1
  have b1 := bel_mark w (.cells #[nm, .slice A cs.length c, vk, vf, vx] 42)
  have HO := Lib.hid ((Own.new w 42 #[nm, .slice A cs.length c, vk, vf, vx]).alloc (.cells #[] 3))
  have HB := Lib.hid (b1.trans ((bel_mark _ (.cells #[] 3)).mono b1.size))
  clear hc1 b1
  go_enter Try.func118, Try.ntmps118
  have HW := Lib.hid (show ((w.alloc (.cells #[nm, .slice A cs.length c, vk, vf, vx] 42)).alloc (.cells #[] 3)).ownsRow (w.heap.size + 1) 3 1 (.slice (some ⟨w.heap.size + 1, 0, none⟩) 0 0) ((cs.take 0).map kdC).length (intsV ((cs.take 0).map kdC)) from
    ⟨rfl, .inr ⟨w.heap.size + 1, 0, #[], rfl, Nat.le_refl _, by have h := heap_alloc_new (w.alloc (.cells #[nm, .slice A cs.length c, vk, vf, vx] 42)) (.cells #[] 3); rw [World.size_alloc] at h; exact h, Nat.le_refl _, Nat.zero_le _, rfl, rfl⟩⟩)
  go_wp2_with fail
  go_loopw [3, 4] (fun vb i wr => ∃ k : Nat, k ≤ cs.length ∧ i = .int .i64 k ∧ Hid (wr.ownsRow (w.heap.size + 1) 3 1 vb ((cs.take k).map kdC).length (intsV ((cs.take k).map kdC))) ∧ Hid (Own wr w.heap.size 42 #[nm, .slice A cs.length c, vk, vf, vx]) ∧ Below w.heap.size w wr) (fun _ i _ => cs.length - (intOf i).toNat)
  case atStart => exact ⟨0, Nat.zero_le _, rfl, HW, HO, HB.out⟩
  case round =>
    obtain ⟨k, hk, rfl, HR, HO2, hbr⟩ := hrel
    have hbz := hbr.size
    have d1 := HO2.out.cell 1
    by_cases hlt : k < cs.length
    · have hki : (k : Int) < cs.length := by omega
      obtain ⟨ad, rfl, _, hab, a0, a1, a2⟩ := HC.out k _ (List.getElem?_eq_getElem hlt)
      have htk : (cs.take (k + 1)).map kdC = (cs.take k).map kdC ++ [kdC cs[k]] := by rw [List.take_add_one, List.getElem?_eq_getElem hlt, List.map_append]; rfl
      generalize cs[k] = q at *
      obtain ⟨qn, qk, qb⟩ := q
      dsimp only at a0 a1 a2
      replace htk : (cs.take (k + 1)).map kdC = (cs.take k).map kdC ++ [qk] := htk
      have e1 := (hbr.cell (p := ⟨(ad.add (k * 3)).block, (ad.add (k * 3)).off + 1, none⟩) (by show (ad.add (k * 3)).block < _; rw [add_block]; exact hab)).trans a1
      have b2 := bel_mark wr (.cells #[.int .i64 qk] 3)
      have HR2 := Lib.hid (own_below HR.out b2)
      have HCU := Lib.hid (show (wr.alloc (.cells #[.int .i64 qk] 3)).cell? ⟨wr.heap.size, 0, none⟩ = some (.int .i64 qk) from (Own.new wr 3 #[.int .i64 qk]).cell 0)
      have HO3 := Lib.hid (HO2.out.below b2 HO2.out.lt)
      have HB2 := Lib.hid (hbr.trans (b2.mono hbz))
      have hlz : ((cs.take k).map kdC).length = k := by rw [List.length_map, List.length_take]; omega
      have HLZ := Lib.hid (show ((cs.take k).map kdC).length ≤ 1099511627776 by omega)
      have HZ2 := Lib.hid (show w.heap.size + 1 ≤ (wr.alloc (.cells #[.int .i64 qk] 3)).heap.size from HO3.out.lt)
      have HTK := Lib.hid htk
      clear a0 a1 a2 b2 htk hlz
      go_wp2_with (at_builtin; refine append_i _ rfl _ _ rfl (w.heap.size + 1) _ ((cs.take k).map kdC) rfl HR2.out wr.heap.size 1 qk rfl HCU.out HLZ.out HZ2.out ?_; intro v3 w3 hR3 hb3)
      have HO4 := Lib.hid (HO3.out.below hb3 (Nat.lt_succ_self _))
      have B3 := HB2.out.trans (hb3.mono (Nat.le_succ _))
      rw [← HTK.out] at hR3
      go_roundw
      case rel => exact ⟨k + 1, by omega, by go_num, Lib.hid hR3, HO4, B3⟩
      case measure => simp [intOf]; omega
    · have hki : ¬ (k : Int) < cs.length := by omega
      have hR := HR.out
      rw [List.take_of_length_le (by omega)] at hR
      have HF := Lib.hid (rdI_own hR (by rw [List.length_map]; exact hlen))
      clear hR
      go_wp2
      go_ret
      exact ⟨_, rfl, HF.out, hbr⟩
end Go.Proofs.Ytggeoloikkjipaa
/-
  The reference's Pick; Key of both. Conditions: lengths.
-/
namespace Go.Proofs.Ytggeoloikkjipaa
set_option linter.unusedVariables false
set_option linter.unusedSimpArgs false
set_option maxRecDepth 100000
open Go.RowKit

theorem rdV_one {w : World} {g : Nat} {p : Vl} (h : Own w g 23 #[.int .i64 p.1, .int .i64 p.2.1, .string p.2.2]) : RdV w 0 w.heap.size (.slice (some ⟨g, 0, none⟩) 1 1) [p] := by
  refine ⟨_, _, rfl, by simp, fun k r hk => ⟨_, rfl, Nat.zero_le _, h.lt, ?_⟩⟩
  rw [addZ13]
  have hk2 : k = 0 := by have := (List.getElem?_eq_some_iff.1 hk).1; simp at this; omega
  subst hk2
  obtain rfl := Option.some.inj hk
  exact ⟨h.cell 0, h.cell 1, h.cell 2⟩
set_option maxRecDepth 100000 in
set_option maxHeartbeats 1600000 in
theorem pKey_any (nm vc vk vf vx u : Value) (ps : List Vl) (zs : List Int) (w : World) (L L2 : Nat) (hu : RdV w L w.heap.size u ps) (hk : RdI w L2 w.heap.size vk zs) (hlen : zs.length ≤ 1099511627776) :
    Calls Try.prog 29 #[.agg #[nm, vc, vk, vf, vx], u] w (RetC w (zs.map (atP ps))) := by
  have b1 := bel_mark w (.cells #[nm, vc, vk, vf, vx] 42)
  have d2 := (Own.new w 42 #[nm, vc, vk, vf, vx]).cell 2
  have H := Lib.hid (pPick_any u vk ps zs (w.alloc (.cells #[nm, vc, vk, vf, vx] 42)) L L2 (hu.step b1 (Nat.le_refl _)) (hk.step b1 (Nat.le_refl _)) hlen)
  have B1 := Lib.hid b1
  obtain ⟨A, c, rfl, q1⟩ := hu
  obtain ⟨A2, c2, rfl, q2⟩ := hk
  clear q1 q2 b1
  go_enter Try.func29, Try.ntmps29
  go_wp2_with fail
  with_reducible refine H.out.mono ?_
  rintro e w2 ⟨u2, rfl, hr, hb2⟩
  go_wp2
  go_ret
  exact ⟨_, rfl, hr.low B1.out.size, B1.out.trans (hb2.mono B1.out.size)⟩
end Go.Proofs.Ytggeoloikkjipaa
