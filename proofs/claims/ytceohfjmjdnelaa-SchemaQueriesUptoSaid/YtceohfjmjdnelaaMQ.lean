import Derived.Test.YtceohfjmjdnelaaMS
import Derived.Laws.OwnMore
import Derived.WalkKit
import Derived.WalkSpells
import Derived.WalkLawsBesides
import Derived.Deep.QuietTactic
import Derived.BigQuiet
import Derived.Handy
import Derived.Lib.Hide
import Derived.Test.YtceohfjmjdnelaaMT
import Derived.Test.YtceohfjmjdnelaaMC
import Derived.Test.YtceohfjmjdnelaaMI
/-
  Find of both, the reference's Ints and Kinds. Conditions: lengths.
-/
namespace Go.Proofs.Ytceohfjmjdnelaa
set_option maxRecDepth 100000
open Go.RowKit

/-- The first column of a name, counted from k; or -1. -/
def findK (s : ByteArray) : Nat → List Cl → Int
  | _, [] => -1
  | k, c :: cs => if (c.1.toList == s.toList) = true then (k : Int) else findK s (k + 1) cs
theorem findK_drop (s : ByteArray) {cs : List Cl} {k : Nat} {c : Cl} (h : cs[k]? = some c) : findK s k (cs.drop k) = if (c.1.toList == s.toList) = true then (k : Int) else findK s (k + 1) (cs.drop (k + 1)) := by
  obtain ⟨h1, rfl⟩ := List.getElem?_eq_some_iff.1 h
  rw [List.drop_eq_getElem_cons h1]
  rfl
set_option maxRecDepth 100000 in
set_option maxHeartbeats 1600000 in
theorem find1_any (qn : ByteArray) (qk : Int) (qb : Bool) (s : ByteArray) (g : Nat) (w : World) (hs : w.cell? ⟨g, 0, none⟩ = some (.string s)) :
    Calls Try.prog 45 #[.agg #[.string qn, .int .i64 qk, .bool qb], .pointer (some ⟨g, 0, none⟩)] w fun e w' => e = .returned (.bool (qn.toList == s.toList)) ∧ Below w.heap.size w w' := by
  have b1 := bel_mark w (.cells #[.string qn, .int .i64 qk, .bool qb] 48)
  have d0 := (Own.new w 48 #[.string qn, .int .i64 qk, .bool qb]).cell 0
  have e0 := (b1.cell (p := ⟨g, 0, none⟩) (World.block_lt_of_cell? w _ hs)).trans hs
  have B1 := Lib.hid b1
  clear b1 hs
  go_enter Try.func45, Try.ntmps45
  go_wp2
  go_ret
  exact ⟨rfl, B1.out⟩
set_option maxRecDepth 100000 in
set_option maxHeartbeats 3200000 in
theorem indexFunc_any (vc : Value) (cs : List Cl) (s : ByteArray) (g : Nat) (w : World) (L : Nat) (hc : RdK w L w.heap.size vc cs) (hs : w.cell? ⟨g, 0, none⟩ = some (.string s)) :
    Calls Try.prog 44 #[vc, .func (.func 45) #[] #[.pointer (some ⟨g, 0, none⟩)]] w fun e w' => e = .returned (.int .i64 (findK s 0 cs)) ∧ Below w.heap.size w w' := by
  obtain ⟨A, c, rfl, hl1, hc1⟩ := hc
  have HC := Lib.hid hc1
  have HS := Lib.hid hs
  have hg0 := World.block_lt_of_cell? w _ hs
  clear hc1 hs
  go_enter Try.func44, Try.ntmps44
  go_wp2
  go_loopw [8] (fun i wr => ∃ k : Nat, k ≤ cs.length ∧ i = .int .i64 k ∧ Hid (findK s 0 cs = findK s k (cs.drop k)) ∧ Below w.heap.size w wr) (fun i _ => cs.length - (intOf i).toNat)
  case atStart => exact ⟨0, Nat.zero_le _, rfl, Lib.hid rfl, Below.refl _ _⟩
  case round =>
    obtain ⟨k, hk, rfl, HR, hbr⟩ := hrel
    have hbz := hbr.size
    by_cases hlt : k < cs.length
    · have hki : (k : Int) < cs.length := by omega
      obtain ⟨ad, rfl, _, hab, a0, a1, a2⟩ := HC.out k _ (List.getElem?_eq_getElem hlt)
      have hcd := findK_drop s (List.getElem?_eq_getElem hlt)
      rw [← HR.out] at hcd
      generalize cs[k] = q at *
      obtain ⟨qn, qk, qb⟩ := q
      dsimp only at a0 a1 a2 hcd
      have e0 := (hbr.cell (p := ad.add (k * 3)) (by rw [add_block]; exact hab)).trans a0
      have e1 := (hbr.cell (p := ⟨(ad.add (k * 3)).block, (ad.add (k * 3)).off + 1, none⟩) (by show (ad.add (k * 3)).block < _; rw [add_block]; exact hab)).trans a1
      have e2 := (hbr.cell (p := ⟨(ad.add (k * 3)).block, (ad.add (k * 3)).off + 2, none⟩) (by show (ad.add (k * 3)).block < _; rw [add_block]; exact hab)).trans a2
      have H1 := Lib.hid (find1_any qn qk qb s g wr ((hbr.cell (p := ⟨g, 0, none⟩) hg0).trans HS.out))
      clear a0 a1 a2
      cases hb : (qn.toList == s.toList)
      · rw [hb] at H1
        have HF := Lib.hid (hcd.trans (if_neg (by rw [hb]; decide)))
        clear hb hcd
        go_wp2_with fail
        with_reducible refine H1.out.mono ?_
        rintro e w2 ⟨rfl, hb2⟩
        go_wp2
        go_roundw
        case rel => exact ⟨k + 1, by omega, by go_num, HF, hbr.trans (hb2.mono hbz)⟩
        case measure => simp [intOf]; omega
      · rw [hb] at H1
        have HF := Lib.hid (hcd.trans (if_pos hb))
        clear hb hcd
        go_wp2_with fail
        with_reducible refine H1.out.mono ?_
        rintro e w2 ⟨rfl, hb2⟩
        go_wp2
        go_ret
        exact ⟨by rw [HF.out]; rfl, hbr.trans (hb2.mono hbz)⟩
    · have hki : ¬ (k : Int) < cs.length := by omega
      have HF := Lib.hid (show findK s 0 cs = -1 by rw [HR.out, List.drop_eq_nil_of_le (show cs.length ≤ k by omega)]; rfl)
      go_wp2
      go_ret
      exact ⟨by rw [HF.out]; rfl, hbr⟩
set_option maxRecDepth 100000 in
set_option maxHeartbeats 1600000 in
theorem pFind_any (nm vc vk vf vx : Value) (cs : List Cl) (s : ByteArray) (w : World) (L : Nat) (hc : RdK w L w.heap.size vc cs) :
    Calls Try.prog 17 #[.agg #[nm, vc, vk, vf, vx], .string s] w fun e w' => e = .returned (.int .i64 (findK s 0 cs)) ∧ Below w.heap.size w w' := by
  have b1 := bel_mark w (.cells #[nm, vc, vk, vf, vx] 27)
  have b2 := b1.trans ((bel_mark _ (.cells #[.string s] 9)).mono b1.size)
  have d1 := ((Own.new w 27 #[nm, vc, vk, vf, vx]).alloc (.cells #[.string s] 9)).cell 1
  have H := Lib.hid (indexFunc_any vc cs s (w.heap.size + 1) ((w.alloc (.cells #[nm, vc, vk, vf, vx] 27)).alloc (.cells #[.string s] 9)) L (hc.step b2 (Nat.le_refl _)) ((own_two2 (w := w) (t := 9) (cs := #[.string s]) (.cells #[nm, vc, vk, vf, vx] 27)).cell 0))
  have B2 := Lib.hid b2
  clear b1 b2 hc
  go_enter Try.func17, Try.ntmps17
  go_wp2_with fail
  with_reducible refine H.out.mono ?_
  rintro e w2 ⟨rfl, hb2⟩
  go_wp2
  go_ret
  exact ⟨rfl, B2.out.trans (hb2.mono B2.out.size)⟩
set_option maxRecDepth 100000 in
set_option maxHeartbeats 3200000 in
theorem rFind_any (nm vc vk vf vx : Value) (cs : List Cl) (s : ByteArray) (w : World) (L : Nat) (hc : RdK w L w.heap.size vc cs) :
    Calls Try.prog 18 #[.agg #[nm, vc, vk, vf, vx], .string s] w fun e w' => e = .returned (.int .i64 (findK s 0 cs)) ∧ Below w.heap.size w w' := by
  obtain ⟨A, c, rfl, hl1, hc1⟩ := hc
  have HC := Lib.hid hc1
  have b1 := bel_mark w (.cells #[nm, .slice A cs.length c, vk, vf, vx] 27)
  have HO := Lib.hid (Own.new w 27 #[nm, .slice A cs.length c, vk, vf, vx])
  have B1 := Lib.hid b1
  clear hc1 b1
  go_enter Try.func18, Try.ntmps18
  go_wp2
  go_loopw [5] (fun i wr => ∃ k : Nat, k ≤ cs.length ∧ i = .int .i64 k ∧ Hid (findK s 0 cs = findK s k (cs.drop k)) ∧ Hid (Own wr w.heap.size 27 #[nm, .slice A cs.length c, vk, vf, vx]) ∧ Below w.heap.size w wr) (fun i _ => cs.length - (intOf i).toNat)
  case atStart => exact ⟨0, Nat.zero_le _, rfl, Lib.hid rfl, HO, B1.out⟩
  case round =>
    obtain ⟨k, hk, rfl, HR, HO2, hbr⟩ := hrel
    have hbz := hbr.size
    have d1 := HO2.out.cell 1
    by_cases hlt : k < cs.length
    · have hki : (k : Int) < cs.length := by omega
      obtain ⟨ad, rfl, _, hab, a0, a1, a2⟩ := HC.out k _ (List.getElem?_eq_getElem hlt)
      have hcd := findK_drop s (List.getElem?_eq_getElem hlt)
      rw [← HR.out] at hcd
      generalize cs[k] = q at *
      obtain ⟨qn, qk, qb⟩ := q
      dsimp only at a0 a1 a2 hcd
      have e0 := (hbr.cell (p := ad.add (k * 3)) (by rw [add_block]; exact hab)).trans a0
      clear a0 a1 a2
      cases hb : (qn.toList == s.toList)
      · have HF := Lib.hid (hcd.trans (if_neg (by rw [hb]; decide)))
        clear hcd
        go_wp2
        go_roundw
        case rel => exact ⟨k + 1, by omega, by go_num, HF, HO2, hbr⟩
        case measure => simp [intOf]; omega
      · have HF := Lib.hid (hcd.trans (if_pos hb))
        clear hcd
        go_wp2
        go_ret
        exact ⟨by rw [HF.out]; rfl, hbr⟩
    · have hki : ¬ (k : Int) < cs.length := by omega
      have HF := Lib.hid (show findK s 0 cs = -1 by rw [HR.out, List.drop_eq_nil_of_le (show cs.length ≤ k by omega)]; rfl)
      go_wp2
      go_ret
      exact ⟨by rw [HF.out]; rfl, hbr⟩
end Go.Proofs.Ytceohfjmjdnelaa
/-
  The reference's Ints and Kinds; Key of both. Conditions: lengths.
-/
namespace Go.Proofs.Ytceohfjmjdnelaa
set_option maxRecDepth 100000
open Go.RowKit

theorem int_drop {xs ys : List Int} {k : Nat} {a b : Int} (ha : xs[k]? = some a) (hb : ys[k]? = some b) : decide (xs.drop k = ys.drop k) = ((a == b) && decide (xs.drop (k + 1) = ys.drop (k + 1))) := by
  obtain ⟨h1, rfl⟩ := List.getElem?_eq_some_iff.1 ha
  obtain ⟨h2, rfl⟩ := List.getElem?_eq_some_iff.1 hb
  rw [Bool.eq_iff_iff, decide_eq_true_iff, Bool.and_eq_true, beq_iff_eq, decide_eq_true_iff, List.drop_eq_getElem_cons h1, List.drop_eq_getElem_cons h2]
  exact List.cons_eq_cons
set_option maxRecDepth 100000 in
set_option maxHeartbeats 3200000 in
theorem rInts_any (u v : Value) (xs ys : List Int) (w : World) (L L2 : Nat) (hu : RdI w L w.heap.size u xs) (hv : RdI w L2 w.heap.size v ys) :
    Calls Try.prog 14 #[u, v] w fun e w' => e = .returned (.bool (decide (xs = ys))) ∧ Below w.heap.size w w' := by
  obtain ⟨A, c, rfl, hl1, hc1⟩ := hu
  obtain ⟨A2, c2, rfl, hl2, hc2⟩ := hv
  have HC := Lib.hid hc1
  have HC2 := Lib.hid hc2
  clear hc1 hc2
  by_cases hln : xs.length = ys.length
  rotate_left
  · have hne : ((xs.length : Int) != (ys.length : Int)) = true := by rw [bne_iff_ne]; omega
    have HF := Lib.hid (show decide (xs = ys) = false by rw [decide_eq_false_iff_not]; intro e; rw [e] at hln; exact hln rfl)
    clear hln
    go_enter Try.func14, Try.ntmps14
    go_wp2
    go_ret
    exact ⟨by rw [HF.out]; rfl, Below.refl _ _⟩
  have hne : ((xs.length : Int) != (ys.length : Int)) = false := by rw [bne_eq_false_iff_eq]; omega
  have HLN := Lib.hid hln
  clear hln
  go_enter Try.func14, Try.ntmps14
  go_wp2
  go_loopw [5] (fun i wr => ∃ k : Nat, k ≤ xs.length ∧ i = .int .i64 k ∧ Hid (decide (xs = ys) = decide (xs.drop k = ys.drop k)) ∧ Below w.heap.size w wr) (fun i _ => xs.length - (intOf i).toNat)
  case atStart => exact ⟨0, Nat.zero_le _, rfl, Lib.hid rfl, Below.refl _ _⟩
  case round =>
    obtain ⟨k, hk, rfl, HR, hbr⟩ := hrel
    have hbz := hbr.size
    by_cases hlt : k < xs.length
    · have hki : (k : Int) < xs.length := by omega
      have hlt2 : k < ys.length := by have := HLN.out; omega
      have hki2 : (k : Int) < ys.length := by omega
      obtain ⟨ad, rfl, _, hab, c0⟩ := HC.out k _ (List.getElem?_eq_getElem hlt)
      obtain ⟨ad2, rfl, _, hab2, b0⟩ := HC2.out k _ (List.getElem?_eq_getElem hlt2)
      have hcd := int_drop (List.getElem?_eq_getElem hlt) (List.getElem?_eq_getElem hlt2)
      rw [← HR.out] at hcd
      generalize xs[k] = a at *
      generalize ys[k] = b at *
      have d0 := (hbr.cell (p := ad.add k) (by rw [add_block]; exact hab)).trans c0
      have f0 := (hbr.cell (p := ad2.add k) (by rw [add_block]; exact hab2)).trans b0
      have x0 : ∀ r : After wr, r.w.cell? (ad.add k) = some (.int .i64 a) := after_cell (by rw [add_block]; omega) d0
      have x1 : ∀ r : After wr, r.w.cell? (ad2.add k) = some (.int .i64 b) := after_cell (by rw [add_block]; omega) f0
      have HCD := Lib.hid hcd
      clear c0 b0 d0 f0 hcd
      by_cases hab3 : a = b
      · have n0 : (a != b) = false := by simp [hab3]
        have HF := Lib.hid (show decide (xs = ys) = decide (xs.drop (k + 1) = ys.drop (k + 1)) by rw [HCD.out, show (a == b) = true by simp [hab3]]; rfl)
        clear hab3 HCD
        go_wp2_with fail
        (refine wp_region_after (by kernel_rfl) (by kernel_rfl) ?_; (repeat (go_big_quiet_step (fail))); refine wpQuiet_nil ?_; intro wq hw0; obtain ⟨⟨wq0, hbq⟩, hw1⟩ := hw0; subst hw1; (try dsimp only))
        clear x0 x1
        go_wp2
        go_roundw
        case rel => exact ⟨k + 1, by omega, by go_num, HF, hbr.trans (hbq.mono hbz)⟩
        case measure => simp [intOf]; omega
      · have n0 : (a != b) = true := by simp [hab3]
        have HF := Lib.hid (show decide (xs = ys) = false by rw [HCD.out, show (a == b) = false by simp [hab3]]; rfl)
        clear hab3 HCD
        go_wp2_with fail
        (refine wp_region_after (by kernel_rfl) (by kernel_rfl) ?_; (repeat (go_big_quiet_step (fail))); refine wpQuiet_nil ?_; intro wq hw0; obtain ⟨⟨wq0, hbq⟩, hw1⟩ := hw0; subst hw1; (try dsimp only))
        clear x0 x1
        go_wp2
        go_ret
        exact ⟨by rw [HF.out]; rfl, hbr.trans (hbq.mono hbz)⟩
    · have hki : ¬ (k : Int) < xs.length := by omega
      have HF := Lib.hid (show decide (xs = ys) = true by rw [HR.out, List.drop_eq_nil_of_le (by omega), List.drop_eq_nil_of_le (by have := HLN.out; omega)]; rfl)
      go_wp2
      go_ret
      exact ⟨by rw [HF.out]; rfl, hbr⟩
theorem infoI : (Try.prog.info? 3).map (fun i => (i.zero, i.size, i.bytes)) = some (some (.int .i64 0), 1, 8) := by kernel_rfl
def intsV (zs : List Int) : List Value := zs.map fun z => .int .i64 z
theorem append_i {ops : Array Oper} {rest : List Oper} {o : Oper} {a : Act} {Q : Exit → Act → World → Prop} (W : World) (hgd : o.guard = none) (s x : Operand)
    (ho : o.op = .call { callee := .builtin .append, args := #[s, x], argTypes := #[23, 23] }) (base : Nat) (vb : Value) (zs : List Int) (hs : a.eval s = vb)
    (hown : W.ownsRow base 3 1 vb zs.length (intsV zs)) (h0 c : Nat) (z : Int) (hx : a.eval x = .slice (some ⟨h0, 0, none⟩) 1 c) (hcell : W.cell? ⟨h0, 0, none⟩ = some (.int .i64 z))
    (hl : zs.length ≤ 1099511627776) (hbase : base ≤ W.heap.size)
    (h : ∀ v' w', w'.ownsRow base 3 1 v' (zs ++ [z]).length (intsV (zs ++ [z])) → Below base W w' → wpList Try.prog ops Q rest (a.put o.dst v') w') :
    wpList Try.prog ops Q (o :: rest) a W := by
  obtain ⟨i0, hi, hz0, hz1, hz2⟩ := info_partsB infoI
  refine wpList_append_own W hgd s x 23 ho base 3 i0 (.int .i64 0) 1 8 Try.underlying23 hi hz0 hz1 hz2 rfl (by decide) vb zs.length (intsV zs) hs hown ⟨h0, 0, none⟩ 1 c [.int .i64 z] hx rfl
    ?_ ?_ (by unfold maxLen; omega) (by omega) hbase ?_
  · intro j v hj
    have hj0 : j = 0 := by have := (List.getElem?_eq_some_iff.1 hj).1; simp at this; omega
    subst hj0
    have hv : Value.int .i64 z = v := by simpa using hj
    subst hv
    exact hcell
  · intro v hv
    simp at hv
    subst hv
    rfl
  · intro v' w' h1 h2 _
    exact h v' w' (by unfold intsV; rw [List.length_append, List.map_append]; exact h1) ((Below.refl _ _).grown h2 hbase fun k hk => (hown.lt k hk).1)
theorem rdI_own {w : World} {base : Nat} {v : Value} {zs : List Int} (h : w.ownsRow base 3 1 v zs.length (intsV zs)) (hl : zs.length ≤ 1099511627776) : RdI w 0 w.heap.size v zs := by
  have h2 := h
  obtain ⟨_, ⟨rfl, h0⟩ | ⟨g, c, cs, rfl, hbg, _⟩⟩ := h
  · obtain rfl := List.eq_nil_of_length_eq_zero h0
    exact ⟨none, 0, rfl, by simp, by simp⟩
  · refine ⟨some ⟨g, 0, none⟩, c, rfl, by omega, fun k z hk => ⟨⟨g, 0, none⟩, rfl, Nat.zero_le _, (h2.lt g rfl).2, World.ownsRow.cells h2 rfl k _ (by unfold intsV; rw [List.getElem?_map, hk]; rfl)⟩⟩
set_option maxRecDepth 100000 in
set_option maxHeartbeats 3200000 in
theorem rKinds_any (nm vc vk vf vx : Value) (cs : List Cl) (w : World) (L : Nat) (hc : RdK w L w.heap.size vc cs) (hlen : cs.length ≤ 1099511627776) :
    Calls Try.prog 16 #[.agg #[nm, vc, vk, vf, vx]] w fun e w' => ∃ u, e = .returned u ∧ RdI w' 0 w'.heap.size u (cs.map kdC) ∧ Below w.heap.size w w' := by
  obtain ⟨A, c, rfl, hl1, hc1⟩ := hc
  have HC := Lib.hid hc1
  have b1 := bel_mark w (.cells #[nm, .slice A cs.length c, vk, vf, vx] 27)
  have HO := Lib.hid ((Own.new w 27 #[nm, .slice A cs.length c, vk, vf, vx]).alloc (.cells #[] 3))
  have HB := Lib.hid (b1.trans ((bel_mark _ (.cells #[] 3)).mono b1.size))
  clear hc1 b1
  go_enter Try.func16, Try.ntmps16
  have HW := Lib.hid (show ((w.alloc (.cells #[nm, .slice A cs.length c, vk, vf, vx] 27)).alloc (.cells #[] 3)).ownsRow (w.heap.size + 1) 3 1 (.slice (some ⟨w.heap.size + 1, 0, none⟩) 0 0) ((cs.take 0).map kdC).length (intsV ((cs.take 0).map kdC)) from
    ⟨rfl, .inr ⟨w.heap.size + 1, 0, #[], rfl, Nat.le_refl _, by have h := heap_alloc_new (w.alloc (.cells #[nm, .slice A cs.length c, vk, vf, vx] 27)) (.cells #[] 3); rw [World.size_alloc] at h; exact h, Nat.le_refl _, Nat.zero_le _, rfl, rfl⟩⟩)
  go_wp2_with fail
  go_loopw [3, 4] (fun vb i wr => ∃ k : Nat, k ≤ cs.length ∧ i = .int .i64 k ∧ Hid (wr.ownsRow (w.heap.size + 1) 3 1 vb ((cs.take k).map kdC).length (intsV ((cs.take k).map kdC))) ∧ Hid (Own wr w.heap.size 27 #[nm, .slice A cs.length c, vk, vf, vx]) ∧ Below w.heap.size w wr) (fun _ i _ => cs.length - (intOf i).toNat)
  case atStart => exact ⟨0, Nat.zero_le _, rfl, HW, HO, HB.out⟩
  case round =>
    obtain ⟨k, hk, rfl, HR, HO2, hbr⟩ := hrel
    have hbz := hbr.size
    have d1 := HO2.out.cell 1
    by_cases hlt : k < cs.length
    · have hki : (k : Int) < cs.length := by omega
      obtain ⟨ad, rfl, _, hab, a0, a1, a2⟩ := HC.out k _ (List.getElem?_eq_getElem hlt)
      have htk : (cs.take (k + 1)).map kdC = (cs.take k).map kdC ++ [kdC cs[k]] := by rw [List.take_add_one, List.getElem?_eq_getElem hlt, List.map_append]; rfl
      generalize cs[k] = q at *
      obtain ⟨qn, qk, qb⟩ := q
      dsimp only at a0 a1 a2
      replace htk : (cs.take (k + 1)).map kdC = (cs.take k).map kdC ++ [qk] := htk
      have e1 := (hbr.cell (p := ⟨(ad.add (k * 3)).block, (ad.add (k * 3)).off + 1, none⟩) (by show (ad.add (k * 3)).block < _; rw [add_block]; exact hab)).trans a1
      have b2 := bel_mark wr (.cells #[.int .i64 qk] 3)
      have HR2 := Lib.hid (own_below HR.out b2)
      have HCU := Lib.hid (show (wr.alloc (.cells #[.int .i64 qk] 3)).cell? ⟨wr.heap.size, 0, none⟩ = some (.int .i64 qk) from (Own.new wr 3 #[.int .i64 qk]).cell 0)
      have HO3 := Lib.hid (HO2.out.below b2 HO2.out.lt)
      have HB2 := Lib.hid (hbr.trans (b2.mono hbz))
      have hlz : ((cs.take k).map kdC).length = k := by rw [List.length_map, List.length_take]; omega
      have HLZ := Lib.hid (show ((cs.take k).map kdC).length ≤ 1099511627776 by omega)
      have HZ2 := Lib.hid (show w.heap.size + 1 ≤ (wr.alloc (.cells #[.int .i64 qk] 3)).heap.size from HO3.out.lt)
      have HTK := Lib.hid htk
      clear a0 a1 a2 b2 htk hlz
      go_wp2_with (at_builtin; refine append_i _ rfl _ _ rfl (w.heap.size + 1) _ ((cs.take k).map kdC) rfl HR2.out wr.heap.size 1 qk rfl HCU.out HLZ.out HZ2.out ?_; intro v3 w3 hR3 hb3)
      have HO4 := Lib.hid (HO3.out.below hb3 (Nat.lt_succ_self _))
      have B3 := HB2.out.trans (hb3.mono (Nat.le_succ _))
      rw [← HTK.out] at hR3
      go_roundw
      case rel => exact ⟨k + 1, by omega, by go_num, Lib.hid hR3, HO4, B3⟩
      case measure => simp [intOf]; omega
    · have hki : ¬ (k : Int) < cs.length := by omega
      have hR := HR.out
      rw [List.take_of_length_le (by omega)] at hR
      have HF := Lib.hid (rdI_own hR (by rw [List.length_map]; exact hlen))
      clear hR
      go_wp2
      go_ret
      exact ⟨_, rfl, HF.out, hbr⟩
end Go.Proofs.Ytceohfjmjdnelaa
/-
  The reference's Pick; Key of both. Conditions: lengths.
-/
namespace Go.Proofs.Ytceohfjmjdnelaa
set_option maxRecDepth 100000
open Go.RowKit

theorem rdV_one {w : World} {g : Nat} {p : Vl} (h : Own w g 45 #[.int .i64 p.1, .int .i64 p.2.1, .string p.2.2]) : RdV w 0 w.heap.size (.slice (some ⟨g, 0, none⟩) 1 1) [p] := by
  refine ⟨_, _, rfl, by simp, fun k r hk => ⟨_, rfl, Nat.zero_le _, h.lt, ?_⟩⟩
  rw [addZ13]
  have hk2 : k = 0 := by have := (List.getElem?_eq_some_iff.1 hk).1; simp at this; omega
  subst hk2
  obtain rfl := Option.some.inj hk
  exact ⟨h.cell 0, h.cell 1, h.cell 2⟩
set_option maxRecDepth 100000 in
set_option maxHeartbeats 6400000 in
theorem rPick_any (u v : Value) (ps : List Vl) (zs : List Int) (w : World) (L L2 : Nat) (hu : RdV w L w.heap.size u ps) (hv : RdI w L2 w.heap.size v zs) (hlen : zs.length ≤ 1099511627776) :
    Calls Try.prog 48 #[u, v] w (RetC w (zs.map (atP ps))) := by
  have HAT := Lib.hid (fun (i : Int) W (h : Below w.heap.size w W) => rAt_any u ps i W L (hu.step h (Nat.le_refl _)))
  obtain ⟨A, c, rfl, hl1, q1⟩ := hu
  obtain ⟨A2, c2, rfl, hl2, hc2⟩ := hv
  have HC2 := Lib.hid hc2
  have HB2 := Lib.hid (bel_mark w (.cells #[] 45))
  have HW := Lib.hid (show (w.alloc (.cells #[] 45)).ownsRow w.heap.size 45 3 (.slice (some ⟨w.heap.size, 0, none⟩) 0 0) ((zs.take 0).map (atP ps)).length (flatV ((zs.take 0).map (atP ps))) from
    ⟨rfl, .inr ⟨w.heap.size, 0, #[], rfl, Nat.le_refl _, heap_alloc_new w _, Nat.le_refl _, Nat.zero_le _, rfl, rfl⟩⟩)
  clear q1 hc2
  go_enter Try.func48, Try.ntmps48
  go_wp2_with fail
  go_loopw [5, 6] (fun vb i wr => ∃ k : Nat, k ≤ zs.length ∧ i = .int .i64 k ∧ Hid (wr.ownsRow w.heap.size 45 3 vb ((zs.take k).map (atP ps)).length (flatV ((zs.take k).map (atP ps)))) ∧ Below w.heap.size w wr) (fun _ i _ => zs.length - (intOf i).toNat)
  case atStart => exact ⟨0, Nat.zero_le _, rfl, HW, HB2.out⟩
  case round =>
    obtain ⟨k, hk, rfl, HR, hbr⟩ := hrel
    have hbz := hbr.size
    by_cases hlt : k < zs.length
    · have hki : (k : Int) < zs.length := by omega
      obtain ⟨ad, rfl, _, hab, c0⟩ := HC2.out k _ (List.getElem?_eq_getElem hlt)
      have htk : (zs.take (k + 1)).map (atP ps) = (zs.take k).map (atP ps) ++ [atP ps zs[k]] := by rw [List.take_add_one, List.getElem?_eq_getElem hlt, List.map_append]; rfl
      generalize zs[k] = z at *
      have d0 := (hbr.cell (p := ad.add k) (by rw [add_block]; exact hab)).trans c0
      have h1 := HAT.out z wr hbr
      generalize atP ps z = p at *
      obtain ⟨kd, n, s⟩ := p
      unfold valV at h1
      dsimp only at h1
      have H1 := Lib.hid h1
      have HTK := Lib.hid htk
      have HLZ := Lib.hid (show ((zs.take k).map (atP ps)).length + [((kd, n, s) : Vl)].length ≤ 2199023255552 by rw [List.length_map, List.length_take]; simp; omega)
      clear c0 h1 htk
      go_wp2_with fail
      with_reducible refine H1.out.mono ?_
      rintro e w2 ⟨rfl, hb2, _⟩
      have b3 := bel_mark w2 (.cells #[.int .i64 kd, .int .i64 n, .string s] 45)
      have HR3 := Lib.hid (own_below (own_below HR.out hb2) b3)
      have HV3 := Lib.hid (rdV_one (p := (kd, n, s)) (Own.new w2 45 #[.int .i64 kd, .int .i64 n, .string s]))
      have B2 := hbr.trans (hb2.mono hbz)
      have HB3 := Lib.hid (B2.trans (b3.mono B2.size))
      have HZ3 := Lib.hid HB3.out.size
      clear hb2 b3 B2
      go_wp2_with (at_builtin; refine append_vx _ (by rfl) _ _ rfl w.heap.size _ ((zs.take k).map (atP ps)) rfl HR3.out _ [(kd, n, s)] _ _ rfl HV3.out (fun n c e => by cases e) HLZ.out HZ3.out ?_; intro v4 w4 hR4 hb4)
      have B4 := HB3.out.trans hb4
      rw [← HTK.out] at hR4
      go_roundw
      case rel => exact ⟨k + 1, by omega, by go_num, Lib.hid hR4, B4⟩
      case measure => simp [intOf]; omega
    · have hki : ¬ (k : Int) < zs.length := by omega
      have hR := HR.out
      rw [List.take_of_length_le (by omega)] at hR
      have HF := Lib.hid (RdN.of_own hR (by rw [List.length_map]; omega))
      clear hR
      go_wp2
      go_ret
      exact ⟨_, rfl, HF.out, hbr⟩
set_option maxRecDepth 100000 in
set_option maxHeartbeats 1600000 in
theorem pKey_any (nm vc vk vf vx u : Value) (ps : List Vl) (zs : List Int) (w : World) (L L2 : Nat) (hu : RdV w L w.heap.size u ps) (hk : RdI w L2 w.heap.size vk zs) (hlen : zs.length ≤ 1099511627776) :
    Calls Try.prog 20 #[.agg #[nm, vc, vk, vf, vx], u] w (RetC w (zs.map (atP ps))) := by
  have b1 := bel_mark w (.cells #[nm, vc, vk, vf, vx] 27)
  have d2 := (Own.new w 27 #[nm, vc, vk, vf, vx]).cell 2
  have H := Lib.hid (pPick_any u vk ps zs (w.alloc (.cells #[nm, vc, vk, vf, vx] 27)) L L2 (hu.step b1 (Nat.le_refl _)) (hk.step b1 (Nat.le_refl _)) hlen)
  have B1 := Lib.hid b1
  obtain ⟨A, c, rfl, q1⟩ := hu
  obtain ⟨A2, c2, rfl, q2⟩ := hk
  clear q1 q2 b1
  go_enter Try.func20, Try.ntmps20
  go_wp2_with fail
  with_reducible refine H.out.mono ?_
  rintro e w2 ⟨u2, rfl, hr, hb2⟩
  go_wp2
  go_ret
  exact ⟨_, rfl, hr.low B1.out.size, B1.out.trans (hb2.mono B1.out.size)⟩
set_option maxRecDepth 100000 in
set_option maxHeartbeats 1600000 in
theorem rKey_any (nm vc vk vf vx u : Value) (ps : List Vl) (zs : List Int) (w : World) (L L2 : Nat) (hu : RdV w L w.heap.size u ps) (hk : RdI w L2 w.heap.size vk zs) (hlen : zs.length ≤ 1099511627776) :
    Calls Try.prog 21 #[.agg #[nm, vc, vk, vf, vx], u] w (RetC w (zs.map (atP ps))) := by
  have b1 := bel_mark w (.cells #[nm, vc, vk, vf, vx] 27)
  have d2 := (Own.new w 27 #[nm, vc, vk, vf, vx]).cell 2
  have H := Lib.hid (rPick_any u vk ps zs (w.alloc (.cells #[nm, vc, vk, vf, vx] 27)) L L2 (hu.step b1 (Nat.le_refl _)) (hk.step b1 (Nat.le_refl _)) hlen)
  have B1 := Lib.hid b1
  obtain ⟨A, c, rfl, q1⟩ := hu
  obtain ⟨A2, c2, rfl, q2⟩ := hk
  clear q1 q2 b1
  go_enter Try.func21, Try.ntmps21
  go_wp2_with fail
  with_reducible refine H.out.mono ?_
  rintro e w2 ⟨u2, rfl, hr, hb2⟩
  go_wp2
  go_ret
  exact ⟨_, rfl, hr.low B1.out.size, B1.out.trans (hb2.mono B1.out.size)⟩
end Go.Proofs.Ytceohfjmjdnelaa
/-
  The walk of the statement SchemaQueries. Conditions: lengths. (Written by mkScL.py.)
-/
namespace Go.Proofs.Ytceohfjmjdnelaa
set_option maxRecDepth 100000
open Go.RowKit

def rowT (ps : List Vl) : Fact := ⟨fun v W => RdN W 0 W.heap.size v ps, fun _ _ _ h hb => h.step hb (Nat.le_refl _)⟩
def intsF (zs : List Int) : Fact := ⟨fun v W => RdI W 0 W.heap.size v zs, fun _ _ _ h hb => h.step hb (Nat.le_refl _)⟩
theorem RdI.low {w : World} {L L' B : Nat} {v : Value} {zs : List Int} (h : RdI w L B v zs) (hL : L' ≤ L) : RdI w L' B v zs := by
  obtain ⟨A, c, hv, hl, hc⟩ := h
  exact ⟨A, c, hv, hl, fun k n hk => let ⟨ad, h1, h0, h2⟩ := hc k n hk; ⟨ad, h1, Nat.le_trans hL h0, h2⟩⟩
set_option maxRecDepth 100000 in
set_option maxHeartbeats 12800000 in
theorem law_queries (nm vc vk vf vx u : Value) (s : ByteArray) (cs : List Cl) (zs : List Int) (ps : List Vl) (m : Int) (w : World) (hm : w.cell? ⟨0, 0, none⟩ = some (.int .i64 m)) (hc : RdK w 0 w.heap.size vc cs) (hk : RdI w 0 w.heap.size vk zs) (hu : RdV w 0 w.heap.size u ps) (hlc : cs.length ≤ 1099511627776) (hlz : zs.length ≤ 1099511627776) :
    Calls Try.prog 4 #[.agg #[nm, vc, vk, vf, vx], .string s, u] w fun e w' => e = .returned (.bool true) ∧ Below w.heap.size w w' := by
  have hm0 := World.block_lt_of_cell? w _ hm
  have b1 := bel_mark w (.cells #[nm, vc, vk, vf, vx] 27)
  have ot := Own.new w 27 #[nm, vc, vk, vf, vx]
  have hsz : w.heap.size < (w.alloc (.cells #[nm, vc, vk, vf, vx] 27)).heap.size := ot.lt
  have hbel := fun W (h : Below (w.alloc (.cells #[nm, vc, vk, vf, vx] 27)).heap.size (w.alloc (.cells #[nm, vc, vk, vf, vx] 27)) W) => b1.trans (h.mono b1.size)
  have HT := Lib.hid (fun W (h : Below (w.alloc (.cells #[nm, vc, vk, vf, vx] 27)).heap.size (w.alloc (.cells #[nm, vc, vk, vf, vx] 27)) W) => (ot.below h ot.lt).five)
  have HKP := Lib.hid (fun W (h : Below (w.alloc (.cells #[nm, vc, vk, vf, vx] 27)).heap.size (w.alloc (.cells #[nm, vc, vk, vf, vx] 27)) W) => pKinds_any nm vc vk vf vx cs W 0 (hc.step (hbel W h) (Nat.le_refl _)) hlc)
  have HKR := Lib.hid (fun W (h : Below (w.alloc (.cells #[nm, vc, vk, vf, vx] 27)).heap.size (w.alloc (.cells #[nm, vc, vk, vf, vx] 27)) W) => rKinds_any nm vc vk vf vx cs W 0 (hc.step (hbel W h) (Nat.le_refl _)) hlc)
  have HFP := Lib.hid (fun W (h : Below (w.alloc (.cells #[nm, vc, vk, vf, vx] 27)).heap.size (w.alloc (.cells #[nm, vc, vk, vf, vx] 27)) W) => pFind_any nm vc vk vf vx cs s W 0 (hc.step (hbel W h) (Nat.le_refl _)))
  have HFR := Lib.hid (fun W (h : Below (w.alloc (.cells #[nm, vc, vk, vf, vx] 27)).heap.size (w.alloc (.cells #[nm, vc, vk, vf, vx] 27)) W) => rFind_any nm vc vk vf vx cs s W 0 (hc.step (hbel W h) (Nat.le_refl _)))
  have HPP := Lib.hid (fun W (h : Below (w.alloc (.cells #[nm, vc, vk, vf, vx] 27)).heap.size (w.alloc (.cells #[nm, vc, vk, vf, vx] 27)) W) => pKey_any nm vc vk vf vx u ps zs W 0 0 (hu.step (hbel W h) (Nat.le_refl _)) (hk.step (hbel W h) (Nat.le_refl _)) hlz)
  have HPR := Lib.hid (fun W (h : Below (w.alloc (.cells #[nm, vc, vk, vf, vx] 27)).heap.size (w.alloc (.cells #[nm, vc, vk, vf, vx] 27)) W) => rKey_any nm vc vk vf vx u ps zs W 0 0 (hu.step (hbel W h) (Nat.le_refl _)) (hk.step (hbel W h) (Nat.le_refl _)) hlz)
  have HA := Lib.hid (fun W (h : Below (w.alloc (.cells #[nm, vc, vk, vf, vx] 27)).heap.size (w.alloc (.cells #[nm, vc, vk, vf, vx] 27)) W) => awake13_any m W (((hbel W h).cell (p := ⟨0, 0, none⟩) hm0).trans hm))
  have B4 := Lib.hid b1
  obtain ⟨Au, cu, rfl, q1⟩ := hu
  clear q1 b1 ot hsz hbel hc hk hm hm0 hlc hlz
  generalize cs.map kdC = KZ at *
  generalize findK s 0 cs = F at *
  generalize zs.map (atP ps) = R at *
  go_enter Try.func4, Try.ntmps4
  go_wp2_with fail
  generalize w.alloc (.cells #[nm, vc, vk, vf, vx] 27) = V at *
  refine wp_region_inv (w := V) (fun x => { tmps := #[.agg #[nm, vc, vk, vf, vx], .string s, .slice Au ps.length cu, .pointer (some ⟨w.heap.size, 0, none⟩), undef, undef, x 26, x 0, x 1, x 2, x 3, x 4, x 5, x 6, x 7, x 8, x 9, x 10, x 11, x 12, x 13, x 14, x 15, x 16, x 17, x 18, x 19, x 20, x 21, x 22, x 23, x 24, x 25], defers := [] }) [isF (.agg #[nm, vc, vk, vf, vx]), intsF KZ, isF (.agg #[nm, vc, vk, vf, vx]), intsF KZ, isF (.bool true), isF (.bool true), isF (.agg #[nm, vc, vk, vf, vx]), isF (.string s), isF (.int .i64 F), isF (.agg #[nm, vc, vk, vf, vx]), isF (.string s), isF (.int .i64 F), isF (.bool true), isF (.bool true), isF (.bool true), isF (.agg #[nm, vc, vk, vf, vx]), isF (.slice Au ps.length cu), rowT R, isF (.agg #[nm, vc, vk, vf, vx]), isF (.slice Au ps.length cu), rowT R, isF (.bool true), isF (.bool true), isF (.bool true), isF (.bool true), isF (.bool true), isF (.bool true)] (fun j => if j = 26 then .bool false else undef) (by kernel_rfl) (by kernel_rfl) (by rfl) ?_ ?_ ?_
  · intro x i o v ho
    have hi : i < 27 := (Array.getElem?_eq_some_iff.1 ho).1
    have hi2 : i = 0 ∨ i = 1 ∨ i = 2 ∨ i = 3 ∨ i = 4 ∨ i = 5 ∨ i = 6 ∨ i = 7 ∨ i = 8 ∨ i = 9 ∨ i = 10 ∨ i = 11 ∨ i = 12 ∨ i = 13 ∨ i = 14 ∨ i = 15 ∨ i = 16 ∨ i = 17 ∨ i = 18 ∨ i = 19 ∨ i = 20 ∨ i = 21 ∨ i = 22 ∨ i = 23 ∨ i = 24 ∨ i = 25 ∨ i = 26 := by omega
    rcases hi2 with rfl | rfl | rfl | rfl | rfl | rfl | rfl | rfl | rfl | rfl | rfl | rfl | rfl | rfl | rfl | rfl | rfl | rfl | rfl | rfl | rfl | rfl | rfl | rfl | rfl | rfl | rfl
    all_goals (obtain rfl := Option.some.inj ho; rfl)
  · intro i o ho x W hb hd K hK
    have hi : i < 27 := (Array.getElem?_eq_some_iff.1 ho).1
    have hi2 : i = 0 ∨ i = 1 ∨ i = 2 ∨ i = 3 ∨ i = 4 ∨ i = 5 ∨ i = 6 ∨ i = 7 ∨ i = 8 ∨ i = 9 ∨ i = 10 ∨ i = 11 ∨ i = 12 ∨ i = 13 ∨ i = 14 ∨ i = 15 ∨ i = 16 ∨ i = 17 ∨ i = 18 ∨ i = 19 ∨ i = 20 ∨ i = 21 ∨ i = 22 ∨ i = 23 ∨ i = 24 ∨ i = 25 ∨ i = 26 := by omega
    clear hi
    rcases hi2 with rfl | rfl | rfl | rfl | rfl | rfl | rfl | rfl | rfl | rfl | rfl | rfl | rfl | rfl | rfl | rfl | rfl | rfl | rfl | rfl | rfl | rfl | rfl | rfl | rfl | rfl | rfl
    · obtain rfl := Option.some.inj ho
      obtain ⟨k0, k1, k2, k3, k4⟩ := HT.out W hb
      clear hd
      rw [if_pos (by rfl)]
      try dsimp only at hK ⊢
      go_simp
      exact hK.out _ W (Below.refl _ _) rfl
    · obtain rfl := Option.some.inj ho
      have h0 : x 0 = .agg #[nm, vc, vk, vf, vx] := hd 0 (by kernel_rfl)
      simp only [h0] at hK ⊢
      clear hd
      rw [if_pos (by rfl)]
      try dsimp only at hK ⊢
      go_simp
      (go_at_call 15; refine (HKP.out W hb).mono ?_; rintro e W1 ⟨v2, rfl, hr, hb1⟩; exact hK.out _ W1 hb1 (hr.low (Nat.zero_le _)))
    · obtain rfl := Option.some.inj ho
      obtain ⟨k0, k1, k2, k3, k4⟩ := HT.out W hb
      clear hd
      rw [if_pos (by rfl)]
      try dsimp only at hK ⊢
      go_simp
      exact hK.out _ W (Below.refl _ _) rfl
    · obtain rfl := Option.some.inj ho
      have h2 : x 2 = .agg #[nm, vc, vk, vf, vx] := hd 2 (by kernel_rfl)
      simp only [h2] at hK ⊢
      clear hd
      rw [if_pos (by rfl)]
      try dsimp only at hK ⊢
      go_simp
      (go_at_call 16; refine (HKR.out W hb).mono ?_; rintro e W1 ⟨v2, rfl, hr, hb1⟩; exact hK.out _ W1 hb1 (hr))
    · obtain rfl := Option.some.inj ho
      have h1 : RdI W 0 W.heap.size (x 1) KZ := hd 1 (by kernel_rfl)
      obtain ⟨B1, d1, e1, q1⟩ := id h1
      clear q1
      simp only [e1] at hK ⊢
      rw [e1] at h1
      replace h1 := Lib.hid h1
      have h3 : RdI W 0 W.heap.size (x 3) KZ := hd 3 (by kernel_rfl)
      obtain ⟨B3, d3, e3, q3⟩ := id h3
      clear q3
      simp only [e3] at hK ⊢
      rw [e3] at h3
      replace h3 := Lib.hid h3
      clear hd
      rw [if_pos (by rfl)]
      try dsimp only at hK ⊢
      go_simp
      (go_at_call 14; refine (rInts_any _ _ KZ KZ W 0 0 h1.out h3.out).mono ?_; rintro e W1 ⟨rfl, hb1⟩; exact hK.out _ W1 hb1 (by show Value.bool (decide (KZ = KZ)) = _; rw [decide_eq_true rfl]))
    · obtain rfl := Option.some.inj ho
      have h4 : x 4 = .bool true := hd 4 (by kernel_rfl)
      simp only [h4] at hK ⊢
      clear hd
      rw [if_pos (by rfl)]
      try dsimp only at hK ⊢
      go_simp
      exact hK.out _ W (Below.refl _ _) rfl
    · obtain rfl := Option.some.inj ho
      have h5 : x 5 = .bool true := hd 5 (by kernel_rfl)
      simp only [h5] at hK ⊢
      obtain ⟨k0, k1, k2, k3, k4⟩ := HT.out W hb
      clear hd
      rw [if_pos (by rfl)]
      try dsimp only at hK ⊢
      go_simp
      exact hK.out _ W (Below.refl _ _) rfl
    · obtain rfl := Option.some.inj ho
      have h5 : x 5 = .bool true := hd 5 (by kernel_rfl)
      simp only [h5] at hK ⊢
      clear hd
      rw [if_pos (by rfl)]
      try dsimp only at hK ⊢
      go_simp
      exact hK.out _ W (Below.refl _ _) rfl
    · obtain rfl := Option.some.inj ho
      have h5 : x 5 = .bool true := hd 5 (by kernel_rfl)
      simp only [h5] at hK ⊢
      have h6 : x 6 = .agg #[nm, vc, vk, vf, vx] := hd 6 (by kernel_rfl)
      simp only [h6] at hK ⊢
      have h7 : x 7 = .string s := hd 7 (by kernel_rfl)
      simp only [h7] at hK ⊢
      clear hd
      rw [if_pos (by rfl)]
      try dsimp only at hK ⊢
      go_simp
      (go_at_call 17; refine (HFP.out W hb).mono ?_; rintro e W1 ⟨rfl, hb1⟩; exact hK.out _ W1 hb1 (rfl))
    · obtain rfl := Option.some.inj ho
      have h5 : x 5 = .bool true := hd 5 (by kernel_rfl)
      simp only [h5] at hK ⊢
      obtain ⟨k0, k1, k2, k3, k4⟩ := HT.out W hb
      clear hd
      rw [if_pos (by rfl)]
      try dsimp only at hK ⊢
      go_simp
      exact hK.out _ W (Below.refl _ _) rfl
    · obtain rfl := Option.some.inj ho
      have h5 : x 5 = .bool true := hd 5 (by kernel_rfl)
      simp only [h5] at hK ⊢
      clear hd
      rw [if_pos (by rfl)]
      try dsimp only at hK ⊢
      go_simp
      exact hK.out _ W (Below.refl _ _) rfl
    · obtain rfl := Option.some.inj ho
      have h5 : x 5 = .bool true := hd 5 (by kernel_rfl)
      simp only [h5] at hK ⊢
      have h9 : x 9 = .agg #[nm, vc, vk, vf, vx] := hd 9 (by kernel_rfl)
      simp only [h9] at hK ⊢
      have h10 : x 10 = .string s := hd 10 (by kernel_rfl)
      simp only [h10] at hK ⊢
      clear hd
      rw [if_pos (by rfl)]
      try dsimp only at hK ⊢
      go_simp
      (go_at_call 18; refine (HFR.out W hb).mono ?_; rintro e W1 ⟨rfl, hb1⟩; exact hK.out _ W1 hb1 (rfl))
    · obtain rfl := Option.some.inj ho
      have h5 : x 5 = .bool true := hd 5 (by kernel_rfl)
      simp only [h5] at hK ⊢
      have h8 : x 8 = .int .i64 F := hd 8 (by kernel_rfl)
      simp only [h8] at hK ⊢
      have h11 : x 11 = .int .i64 F := hd 11 (by kernel_rfl)
      simp only [h11] at hK ⊢
      clear hd
      rw [if_pos (by rfl)]
      try dsimp only at hK ⊢
      go_simp
      exact hK.out _ W (Below.refl _ _) rfl
    · obtain rfl := Option.some.inj ho
      have h5 : x 5 = .bool true := hd 5 (by kernel_rfl)
      simp only [h5] at hK ⊢
      have h12 : x 12 = .bool true := hd 12 (by kernel_rfl)
      simp only [h12] at hK ⊢
      clear hd
      rw [if_pos (by rfl)]
      try dsimp only at hK ⊢
      go_simp
      exact hK.out _ W (Below.refl _ _) rfl
    · obtain rfl := Option.some.inj ho
      have h13 : x 13 = .bool true := hd 13 (by kernel_rfl)
      simp only [h13] at hK ⊢
      clear hd
      rw [if_pos (by rfl)]
      try dsimp only at hK ⊢
      go_simp
      exact hK.out _ W (Below.refl _ _) rfl
    · obtain rfl := Option.some.inj ho
      have h14 : x 14 = .bool true := hd 14 (by kernel_rfl)
      simp only [h14] at hK ⊢
      obtain ⟨k0, k1, k2, k3, k4⟩ := HT.out W hb
      clear hd
      rw [if_pos (by rfl)]
      try dsimp only at hK ⊢
      go_simp
      exact hK.out _ W (Below.refl _ _) rfl
    · obtain rfl := Option.some.inj ho
      have h14 : x 14 = .bool true := hd 14 (by kernel_rfl)
      simp only [h14] at hK ⊢
      clear hd
      rw [if_pos (by rfl)]
      try dsimp only at hK ⊢
      go_simp
      exact hK.out _ W (Below.refl _ _) rfl
    · obtain rfl := Option.some.inj ho
      have h14 : x 14 = .bool true := hd 14 (by kernel_rfl)
      simp only [h14] at hK ⊢
      have h15 : x 15 = .agg #[nm, vc, vk, vf, vx] := hd 15 (by kernel_rfl)
      simp only [h15] at hK ⊢
      have h16 : x 16 = .slice Au ps.length cu := hd 16 (by kernel_rfl)
      simp only [h16] at hK ⊢
      clear hd
      rw [if_pos (by rfl)]
      try dsimp only at hK ⊢
      go_simp
      (go_at_call 20; refine (HPP.out W hb).mono ?_; rintro e W1 ⟨v2, rfl, hr, hb1⟩; exact hK.out _ W1 hb1 (hr.low (Nat.zero_le _)))
    · obtain rfl := Option.some.inj ho
      have h14 : x 14 = .bool true := hd 14 (by kernel_rfl)
      simp only [h14] at hK ⊢
      obtain ⟨k0, k1, k2, k3, k4⟩ := HT.out W hb
      clear hd
      rw [if_pos (by rfl)]
      try dsimp only at hK ⊢
      go_simp
      exact hK.out _ W (Below.refl _ _) rfl
    · obtain rfl := Option.some.inj ho
      have h14 : x 14 = .bool true := hd 14 (by kernel_rfl)
      simp only [h14] at hK ⊢
      clear hd
      rw [if_pos (by rfl)]
      try dsimp only at hK ⊢
      go_simp
      exact hK.out _ W (Below.refl _ _) rfl
    · obtain rfl := Option.some.inj ho
      have h14 : x 14 = .bool true := hd 14 (by kernel_rfl)
      simp only [h14] at hK ⊢
      have h18 : x 18 = .agg #[nm, vc, vk, vf, vx] := hd 18 (by kernel_rfl)
      simp only [h18] at hK ⊢
      have h19 : x 19 = .slice Au ps.length cu := hd 19 (by kernel_rfl)
      simp only [h19] at hK ⊢
      clear hd
      rw [if_pos (by rfl)]
      try dsimp only at hK ⊢
      go_simp
      (go_at_call 21; refine (HPR.out W hb).mono ?_; rintro e W1 ⟨v2, rfl, hr, hb1⟩; exact hK.out _ W1 hb1 (hr.low (Nat.zero_le _)))
    · obtain rfl := Option.some.inj ho
      have h14 : x 14 = .bool true := hd 14 (by kernel_rfl)
      simp only [h14] at hK ⊢
      have h17 : RdN W 0 W.heap.size (x 17) R := hd 17 (by kernel_rfl)
      obtain ⟨A17, c17, e17, q17⟩ := id h17.1
      clear q17
      simp only [e17] at hK ⊢
      rw [e17] at h17
      replace h17 := Lib.hid h17
      have h20 : RdN W 0 W.heap.size (x 20) R := hd 20 (by kernel_rfl)
      obtain ⟨A20, c20, e20, q20⟩ := id h20.1
      clear q20
      simp only [e20] at hK ⊢
      rw [e20] at h20
      replace h20 := Lib.hid h20
      clear hd
      rw [if_pos (by rfl)]
      try dsimp only at hK ⊢
      go_simp
      (go_at_call 19; refine (equal8_any _ _ R R W 0 0 h17.out.1 h20.out.1).mono ?_; rintro e W1 ⟨rfl, hb1⟩; exact hK.out _ W1 hb1 (by show Value.bool (cmpR R R == 0) = _; rw [(cmpR_eq R R).2 rfl]; rfl))
    · obtain rfl := Option.some.inj ho
      have h14 : x 14 = .bool true := hd 14 (by kernel_rfl)
      simp only [h14] at hK ⊢
      have h21 : x 21 = .bool true := hd 21 (by kernel_rfl)
      simp only [h21] at hK ⊢
      clear hd
      rw [if_pos (by rfl)]
      try dsimp only at hK ⊢
      go_simp
      exact hK.out _ W (Below.refl _ _) rfl
    · obtain rfl := Option.some.inj ho
      have h22 : x 22 = .bool true := hd 22 (by kernel_rfl)
      simp only [h22] at hK ⊢
      clear hd
      rw [if_pos (by rfl)]
      try dsimp only at hK ⊢
      go_simp
      exact hK.out _ W (Below.refl _ _) rfl
    · obtain rfl := Option.some.inj ho
      have h23 : x 23 = .bool true := hd 23 (by kernel_rfl)
      simp only [h23] at hK ⊢
      clear hd
      rw [if_pos (by rfl)]
      try dsimp only at hK ⊢
      go_simp
      (go_at_call 13; refine (HA.out W hb).mono ?_; rintro e W1 ⟨rfl, hb1⟩; exact hK.out _ W1 hb1 (rfl))
    · obtain rfl := Option.some.inj ho
      have h23 : x 23 = .bool true := hd 23 (by kernel_rfl)
      simp only [h23] at hK ⊢
      have h24 : x 24 = .bool true := hd 24 (by kernel_rfl)
      simp only [h24] at hK ⊢
      clear hd
      rw [if_pos (by rfl)]
      try dsimp only at hK ⊢
      go_simp
      exact hK.out _ W (Below.refl _ _) rfl
    · obtain rfl := Option.some.inj ho
      have h25 : x 25 = .bool true := hd 25 (by kernel_rfl)
      simp only [h25] at hK ⊢
      clear hd
      rw [if_pos (by rfl)]
      try dsimp only at hK ⊢
      go_simp
      exact hK.out _ W (Below.refl _ _) rfl
  · intro x W hb hf
    have h26 : x 26 = .bool true := hf 26 (by decide)
    have BU := Lib.hid (B4.out.trans (hb.mono B4.out.size))
    clear hf hb
    try dsimp only
    rw [h26]
    clear h26
    generalize x 0 = t0
    generalize x 1 = t1
    generalize x 2 = t2
    generalize x 3 = t3
    generalize x 4 = t4
    generalize x 5 = t5
    generalize x 6 = t6
    generalize x 7 = t7
    generalize x 8 = t8
    generalize x 9 = t9
    generalize x 10 = t10
    generalize x 11 = t11
    generalize x 12 = t12
    generalize x 13 = t13
    generalize x 14 = t14
    generalize x 15 = t15
    generalize x 16 = t16
    generalize x 17 = t17
    generalize x 18 = t18
    generalize x 19 = t19
    generalize x 20 = t20
    generalize x 21 = t21
    generalize x 22 = t22
    generalize x 23 = t23
    generalize x 24 = t24
    generalize x 25 = t25
    clear x
    go_wp2
    go_ret
    exact ⟨rfl, BU.out⟩
end Go.Proofs.Ytceohfjmjdnelaa
/-
  How tables are opened, and how much they hold, as the second forms reckon it. Conditions: none.
-/
namespace Go.Proofs.Ytceohfjmjdnelaa
set_option maxRecDepth 100000
open Go.ChangeShapes Go.WideShapes Go.ChangeAt Go.RowKit Go.Joins Go.Deep

theorem cellsInts1 : Try.prog.cellsOf 23 = 1 := by kernel_rfl
section
variable {H : Type} {enc : TypeId × Value → H} {W : World} {base : Nat}
theorem bulk_len (D : Nat → DataW H) : ∀ l : List Nat, (∀ i ∈ l, 1 ≤ Rows.uptoBulk (D i)) → l.length ≤ Rows.uptoBulkAll (l.map D)
  | [], _ => by simp
  | j :: l, h => by
    have h1 := h j (List.mem_cons_self ..)
    have h2 := bulk_len D l (fun i hi => h i (List.mem_cons_of_mem _ hi))
    simp only [List.map_cons, Rows.uptoBulkAll, List.length_cons]
    omega
theorem bulk_pos (d : DataW H) : 1 ≤ Rows.uptoBulk d := by
  unfold Rows.uptoBulk
  split <;> omega
set_option maxRecDepth 100000 in
theorem open_colsB {fuel : Nat} {cs : List Value} {d : DataW H} {p : List MemPlace} (hf : DataW.trod enc Try.prog W 0 (fun _ => true) true fuel 22 cs = some (d, p)) :
    ∃ (v : Value) (ps : List Cl), cs = [v] ∧ RdK W 0 W.heap.size v ps ∧ ps.length ≤ Rows.uptoBulk d := by
  rcases open_slice Try.underlying22 hf with ⟨hcs, _⟩ | ⟨a, len, cap, m, n, D, Pl, hcs, _, hl, hm, hmm, hxx, hx⟩
  · subst hcs
    exact ⟨_, [], rfl, ⟨none, 0, rfl, by simp, by simp⟩, by simp⟩
  · obtain ⟨v, ps, e, h⟩ := open_cols hf
    refine ⟨v, ps, e, h, ?_⟩
    rw [if_pos rfl] at hmm
    subst hmm hcs
    injection e with e _
    subst e
    obtain ⟨A, c, e2, _⟩ := h
    injection e2 with _ e3 _
    have hd : d = .slice ((List.range len).map D) ((List.range (m - len)).map fun j => D (len + j)) := congrArg Prod.fst hxx
    rw [hd]
    have := bulk_len D (List.range len) (fun i _ => bulk_pos _)
    rw [List.length_range] at this
    show _ ≤ (Rows.uptoBulkAll _ + Rows.uptoBulkAll _ + 1)
    omega
set_option maxRecDepth 100000 in
theorem open_intsB {fuel : Nat} {cs : List Value} {d : DataW H} {p : List MemPlace} (hf : DataW.trod enc Try.prog W 0 (fun _ => true) true fuel 23 cs = some (d, p)) :
    ∃ (v : Value) (zs : List Int), cs = [v] ∧ RdI W 0 W.heap.size v zs ∧ zs.length ≤ Rows.uptoBulk d := by
  rcases open_slice Try.underlying23 hf with ⟨hcs, _⟩ | ⟨a, len, cap, m, n, D, Pl, hcs, _, hl, hm, hmm, hxx, hx⟩
  · subst hcs
    exact ⟨_, [], rfl, ⟨none, 0, rfl, by simp, by simp⟩, by simp⟩
  · subst hcs
    rw [if_pos rfl] at hmm
    subst hmm
    have hml := maxLen_le
    have each : ∀ i, i < len → ∃ q : Int, W.cell? (a.add i) = some (.int .i64 q) := by
      intro i hi
      obtain ⟨cs', hc, ht⟩ := hx i (by omega)
      rw [cellsInt1, Nat.mul_one] at hc
      obtain ⟨_, hcl, hat⟩ := World.cells?_some hc
      match cs', hcl with
      | [v0], _ =>
        have e0 := hat 0 (by omega)
        obtain ⟨x, f0, _⟩ := DataW.trod_int Try.underlying3 ht
        simp at f0
        subst f0
        exact ⟨x, by simpa [show (a.add i).add 0 = a.add i by unfold Addr.add; simp] using e0⟩
    obtain ⟨q, hq⟩ := choose_lt each
    have hd : d = .slice ((List.range len).map D) ((List.range (m - len)).map fun j => D (len + j)) := congrArg Prod.fst hxx
    refine ⟨_, (List.range len).map q, rfl, ⟨some a, _, by rw [List.length_map, List.length_range], by rw [List.length_map, List.length_range]; omega, fun k p hk => ?_⟩, ?_⟩
    · obtain ⟨hk1, hk2⟩ := List.getElem?_eq_some_iff.1 hk
      simp at hk1 hk2
      subst hk2
      have g0 := hq k hk1
      have hb := cell_lt g0
      rw [add_block] at hb
      exact ⟨a, rfl, Nat.zero_le _, hb, g0⟩
    · rw [hd, List.length_map]
      have := bulk_len D (List.range len) (fun i _ => bulk_pos _)
      show _ ≤ (Rows.uptoBulkAll _ + Rows.uptoBulkAll _ + 1)
      omega
set_option maxRecDepth 100000 in
theorem open_tabU {v : Value} {d : DataW H} {p : List MemPlace} (hv : Value.okWide Try.prog W .any base 27 v) (h : DataW.Trod enc Try.prog W 0 (fun _ => true) true 27 v d p) :
    ∃ (nm v1 v2 v3 v4 : Value) (cs : List Cl) (zs : List Int), v = .agg #[nm, v1, v2, v3, v4] ∧ RdK W 0 W.heap.size v1 cs ∧ RdI W 0 W.heap.size v2 zs ∧ cs.length ≤ Rows.uptoBulk d ∧ zs.length ≤ Rows.uptoBulk d := by
  obtain ⟨cs, rfl, hsz⟩ := okWide_struct Try.underlying27 hv
  rw [cellsTab] at hsz
  obtain ⟨l⟩ := cs
  match l, hsz with
  | [c0, c1, c2, c3, c4], _ =>
    obtain ⟨fuel, hf⟩ := h
    obtain ⟨xs, n', _, hxy, _, hxl, hfl⟩ := DataW.trod_struct Try.underlying27 hf
    match xs, hxl with
    | [y0, y1, y2, y3, y4], _ =>
      have g1 := hfl 1 _ rfl
      have g2 := hfl 2 _ rfl
      simp [cellsCols1, cellsInts1, Value.cells] at g1 g2
      obtain ⟨y1a, y1b⟩ := y1
      obtain ⟨y2a, y2b⟩ := y2
      obtain ⟨v1, ps, e1, h1, k1⟩ := open_colsB g1
      obtain ⟨v2, zs, e2, h2, k2⟩ := open_intsB g2
      injection e1 with e1 _
      injection e2 with e2 _
      subst e1 e2
      have hd : d = .agg [y0.1, y1a, y2a, y3.1, y4.1] := by simpa using congrArg Prod.fst hxy
      refine ⟨c0, c1, c2, c3, c4, ps, zs, rfl, h1, h2, ?_, ?_⟩
      · rw [hd]; simp only [Rows.uptoBulk, Rows.uptoBulkAll]; omega
      · rw [hd]; simp only [Rows.uptoBulk, Rows.uptoBulkAll]; omega
end
end Go.Proofs.Ytceohfjmjdnelaa
