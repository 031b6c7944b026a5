import Derived.Test.YteihjneeiojgaaaMT
import Derived.Test.YteihjneeiojgaaaMA
import Derived.WalkKit
import Derived.WalkSpells
import Derived.WalkLawsBesides
import Derived.Deep.QuietTactic
import Derived.BigQuiet
import Derived.Handy
import Derived.Lib.Hide
import Derived.Test.YteihjneeiojgaaaPB
/-
  The reference's Ints (out of XScR.src). Conditions: none.
-/
namespace Go.Proofs.Yteihjneeiojgaaa
set_option maxRecDepth 100000
set_option linter.unusedVariables false
set_option linter.unusedSimpArgs false
open Go.RowKit

theorem int_drop {xs ys : List Int} {k : Nat} {a b : Int} (ha : xs[k]? = some a) (hb : ys[k]? = some b) : decide (xs.drop k = ys.drop k) = ((a == b) && decide (xs.drop (k + 1) = ys.drop (k + 1))) := by
  obtain ⟨h1, rfl⟩ := List.getElem?_eq_some_iff.1 ha
  obtain ⟨h2, rfl⟩ := List.getElem?_eq_some_iff.1 hb
  rw [Bool.eq_iff_iff, decide_eq_true_iff, Bool.and_eq_true, beq_iff_eq, decide_eq_true_iff, List.drop_eq_getElem_cons h1, List.drop_eq_getElem_cons h2]
  exact List.cons_eq_cons
set_option maxRecDepth 100000 in
set_option maxHeartbeats 3200000 in
theorem rInts_any (u v : Value) (xs ys : List Int) (w : World) (L L2 : Nat) (hu : RdI w L w.heap.size u xs) (hv : RdI w L2 w.heap.size v ys) :
    Calls Try.prog 17 #[u, v] w fun e w' => e = .returned (.bool (decide (xs = ys))) ∧ Below w.heap.size w w' := by
  obtain ⟨A, c, rfl, hl1, hc1⟩ := hu
  obtain ⟨A2, c2, rfl, hl2, hc2⟩ := hv
  have HC := Lib.hid hc1
  have HC2 := Lib.hid hc2
  clear hc1 hc2
  by_cases hln : xs.length = ys.length
  rotate_left
  · have hne : ((xs.length : Int) != (ys.length : Int)) = true := by rw [bne_iff_ne]; omega
    have HF := Lib.hid (show decide (xs = ys) = false by rw [decide_eq_false_iff_not]; intro e; rw [e] at hln; exact hln rfl)
    clear hln
    go_enter Try.func17, Try.ntmps17
    go_wp2
    go_ret
    exact ⟨by rw [HF.out]; rfl, Below.refl _ _⟩
  have hne : ((xs.length : Int) != (ys.length : Int)) = false := by rw [bne_eq_false_iff_eq]; omega
  have HLN := Lib.hid hln
  clear hln
  go_enter Try.func17, Try.ntmps17
  go_wp2
  go_loopw [5] (fun i wr => ∃ k : Nat, k ≤ xs.length ∧ i = .int .i64 k ∧ Hid (decide (xs = ys) = decide (xs.drop k = ys.drop k)) ∧ Below w.heap.size w wr) (fun i _ => xs.length - (intOf i).toNat)
  case atStart => exact ⟨0, Nat.zero_le _, rfl, Lib.hid rfl, Below.refl _ _⟩
  case round =>
    obtain ⟨k, hk, rfl, HR, hbr⟩ := hrel
    have hbz := hbr.size
    by_cases hlt : k < xs.length
    · have hki : (k : Int) < xs.length := by omega
      have hlt2 : k < ys.length := by have := HLN.out; omega
      have hki2 : (k : Int) < ys.length := by omega
      obtain ⟨ad, rfl, _, hab, c0⟩ := HC.out k _ (List.getElem?_eq_getElem hlt)
      obtain ⟨ad2, rfl, _, hab2, b0⟩ := HC2.out k _ (List.getElem?_eq_getElem hlt2)
      have hcd := int_drop (List.getElem?_eq_getElem hlt) (List.getElem?_eq_getElem hlt2)
      rw [← HR.out] at hcd
      generalize xs[k] = a at *
      generalize ys[k] = b at *
      have d0 := (hbr.cell (p := ad.add k) (by rw [add_block]; exact hab)).trans c0
      have f0 := (hbr.cell (p := ad2.add k) (by rw [add_block]; exact hab2)).trans b0
      have x0 : ∀ r : After wr, r.w.cell? (ad.add k) = some (.int .i64 a) := after_cell (by rw [add_block]; omega) d0
      have x1 : ∀ r : After wr, r.w.cell? (ad2.add k) = some (.int .i64 b) := after_cell (by rw [add_block]; omega) f0
      have HCD := Lib.hid hcd
      clear c0 b0 d0 f0 hcd
      by_cases hab3 : a = b
      · have n0 : (a != b) = false := by simp [hab3]
        have HF := Lib.hid (show decide (xs = ys) = decide (xs.drop (k + 1) = ys.drop (k + 1)) by rw [HCD.out, show (a == b) = true by simp [hab3]]; rfl)
        clear hab3 HCD
        go_wp2_with fail
        (refine wp_region_after (by kernel_rfl) (by kernel_rfl) ?_; (repeat (go_big_quiet_step (fail))); refine wpQuiet_nil ?_; intro wq hw0; obtain ⟨⟨wq0, hbq⟩, hw1⟩ := hw0; subst hw1; (try dsimp only))
        clear x0 x1
        go_wp2
        go_roundw
        case rel => exact ⟨k + 1, by omega, by go_num, HF, hbr.trans (hbq.mono hbz)⟩
        case measure => simp [intOf]; omega
      · have n0 : (a != b) = true := by simp [hab3]
        have HF := Lib.hid (show decide (xs = ys) = false by rw [HCD.out, show (a == b) = false by simp [hab3]]; rfl)
        clear hab3 HCD
        go_wp2_with fail
        (refine wp_region_after (by kernel_rfl) (by kernel_rfl) ?_; (repeat (go_big_quiet_step (fail))); refine wpQuiet_nil ?_; intro wq hw0; obtain ⟨⟨wq0, hbq⟩, hw1⟩ := hw0; subst hw1; (try dsimp only))
        clear x0 x1
        go_wp2
        go_ret
        exact ⟨by rw [HF.out]; rfl, hbr.trans (hbq.mono hbz)⟩
    · have hki : ¬ (k : Int) < xs.length := by omega
      have HF := Lib.hid (show decide (xs = ys) = true by rw [HR.out, List.drop_eq_nil_of_le (by omega), List.drop_eq_nil_of_le (by have := HLN.out; omega)]; rfl)
      go_wp2
      go_ret
      exact ⟨by rw [HF.out]; rfl, hbr⟩
end Go.Proofs.Yteihjneeiojgaaa
/-
  schema.Same and the reference's Same: what they answer. Conditions: none. (Written by mkSsC.py.)
-/
namespace Go.Proofs.Yteihjneeiojgaaa
set_option maxRecDepth 100000
set_option linter.unusedVariables false
set_option linter.unusedSimpArgs false
open Go.RowKit

theorem twoI_dec : ∀ xs ys : List Int, twoL eqI xs ys = decide (xs = ys)
  | [], [] => rfl
  | [], _ :: _ => rfl
  | _ :: _, [] => rfl
  | x :: xs, y :: ys => by
    show (eqI x y && twoL eqI xs ys) = _
    rw [twoI_dec xs ys]
    unfold eqI
    rw [Bool.eq_iff_iff, decide_eq_true_iff, Bool.and_eq_true, beq_iff_eq, decide_eq_true_iff]
    exact List.cons_eq_cons.symm
set_option maxRecDepth 100000 in
set_option maxHeartbeats 12800000 in
theorem rSameT_any (na nb : ByteArray) (u1 u2 u3 u4 v1 v2 v3 v4 : Value) (cs cs2 : List Cl) (zs zs2 : List Int) (fs fs2 : List Fk) (es es2 : List Ex) (d : Nat) (w : World)
    (h1 : RdK w 0 w.heap.size u1 cs) (h2 : RdI w 0 w.heap.size u2 zs) (h3 : RdF w 0 w.heap.size u3 fs) (h4 : RdE w 0 w.heap.size (d + 1) u4 es)
    (k1 : RdK w 0 w.heap.size v1 cs2) (k2 : RdI w 0 w.heap.size v2 zs2) (k3 : RdF w 0 w.heap.size v3 fs2) (k4 : RdE w 0 w.heap.size (d + 1) v4 es2) :
    Calls Try.prog 7 #[.agg #[.string na, u1, u2, u3, u4], .agg #[.string nb, v1, v2, v3, v4]] w fun e' w' => e' = .returned (.bool (na.toList == nb.toList && (twoL eqC cs cs2 && (twoL eqI zs zs2 && (twoL eqF fs fs2 && sameL (sameE d) es es2))))) ∧ Below w.heap.size w w' := by
  have T2 := Lib.hid (fun (W : World) (hb : Below w.heap.size w W) => rInts_any u2 v2 zs zs2 W 0 0 (h2.step hb (Nat.le_refl _)) (k2.step hb (Nat.le_refl _)))
  have T4 := Lib.hid (fun (W : World) (hb : Below w.heap.size w W) => rList_any d es es2 u4 v4 W 0 0 (h4.step hb (Nat.le_refl _)) (k4.step hb (Nat.le_refl _)))
  obtain ⟨A1, c1, e1, l1, hc1⟩ := h1
  obtain ⟨A2, c2, e2, l2, hc2⟩ := h2
  obtain ⟨A3, c3, e3, l3, hc3⟩ := h3
  obtain ⟨A4, c4, e4, l4⟩ := h4.slice
  obtain ⟨B1, d1, f1, m1, kc1⟩ := k1
  obtain ⟨B2, d2, f2, m2, kc2⟩ := k2
  obtain ⟨B3, d3, f3, m3, kc3⟩ := k3
  obtain ⟨B4, d4, f4, m4⟩ := k4.slice
  subst e1 e2 e3 e4 f1 f2 f3 f4
  have bb : Below w.heap.size w ((w.alloc (.cells #[.string na, .slice A1 cs.length c1, .slice A2 zs.length c2, .slice A3 fs.length c3, .slice A4 es.length c4] 27)).alloc (.cells #[.string nb, .slice B1 cs2.length d1, .slice B2 zs2.length d2, .slice B3 fs2.length d3, .slice B4 es2.length d4] 27)) := (bel_mk w _).trans ((bel_mk _ _).mono (by simp))
  have HB := Lib.hid bb
  have HO := Lib.hid (show Own ((w.alloc (.cells #[.string na, .slice A1 cs.length c1, .slice A2 zs.length c2, .slice A3 fs.length c3, .slice A4 es.length c4] 27)).alloc (.cells #[.string nb, .slice B1 cs2.length d1, .slice B2 zs2.length d2, .slice B3 fs2.length d3, .slice B4 es2.length d4] 27)) w.heap.size 27 #[.string na, .slice A1 cs.length c1, .slice A2 zs.length c2, .slice A3 fs.length c3, .slice A4 es.length c4] from (Own.new w _ _).alloc _)
  have HP := Lib.hid (show Own ((w.alloc (.cells #[.string na, .slice A1 cs.length c1, .slice A2 zs.length c2, .slice A3 fs.length c3, .slice A4 es.length c4] 27)).alloc (.cells #[.string nb, .slice B1 cs2.length d1, .slice B2 zs2.length d2, .slice B3 fs2.length d3, .slice B4 es2.length d4] 27)) (w.heap.size + 1) 27 #[.string nb, .slice B1 cs2.length d1, .slice B2 zs2.length d2, .slice B3 fs2.length d3, .slice B4 es2.length d4] from own_two2 _)
  clear bb
  have HC1 := Lib.hid hc1
  have HK1 := Lib.hid kc1
  have HC3 := Lib.hid hc3
  have HK3 := Lib.hid kc3
  clear hc1 hc2 hc3 kc1 kc2 kc3 h4 k4
  rw [twoI_dec]
  generalize hRR : (na.toList == nb.toList && (twoL eqC cs cs2 && (decide (zs = zs2) && (twoL eqF fs fs2 && sameL (sameE d) es es2)))) = R
  have HRR := Lib.hid hRR
  clear hRR
  generalize decide (zs = zs2) = t2 at *
  generalize sameL (sameE d) es es2 = t4 at *
  have x0 := HO.out.cell 0
  have x1 := HO.out.cell 1
  have x2 := HO.out.cell 2
  have x3 := HO.out.cell 3
  have x4 := HO.out.cell 4
  have y0 := HP.out.cell 0
  have y1 := HP.out.cell 1
  have y2 := HP.out.cell 2
  have y3 := HP.out.cell 3
  have y4 := HP.out.cell 4
  cases hs : (na.toList == nb.toList)
  · have HF := Lib.hid (show R = false by rw [← HRR.out, hs]; rfl)
    go_enter Try.func7, Try.ntmps7
    go_wp2
    go_ret
    exact ⟨by rw [HF.out]; rfl, HB.out⟩
  replace HRR := Lib.hid (HRR.out.symm.trans (by rw [hs, Bool.true_and]))
  by_cases hlc : cs.length = cs2.length
  rotate_left
  · have hne : ((cs.length : Int) != (cs2.length : Int)) = true := by rw [bne_iff_ne]; omega
    have HF := Lib.hid (show R = false by rw [HRR.out, twoL_len eqC cs cs2 hlc]; rfl)
    clear hlc
    go_enter Try.func7, Try.ntmps7
    go_wp2
    go_ret
    exact ⟨by rw [HF.out]; rfl, HB.out⟩
  have hnc : ((cs.length : Int) != (cs2.length : Int)) = false := by rw [bne_eq_false_iff_eq]; omega
  have HLC := Lib.hid hlc
  clear hlc
  by_cases hlf : fs.length = fs2.length
  rotate_left
  · have hnf : ((fs.length : Int) != (fs2.length : Int)) = true := by rw [bne_iff_ne]; omega
    have HF := Lib.hid (show R = false by rw [HRR.out, twoL_len eqF fs fs2 hlf]; simp)
    clear hlf
    go_enter Try.func7, Try.ntmps7
    go_wp2_with fail
    with_reducible refine (T2.out _ HB.out).mono ?_
    rintro e1 w1 ⟨rfl, hb⟩
    replace HB := Lib.hid (HB.out.trans (hb.mono HB.out.size))
    replace HO := Lib.hid (HO.out.below hb HO.out.lt)
    replace HP := Lib.hid (HP.out.below hb HP.out.lt)
    clear hb x0 x1 x2 x3 x4 y0 y1 y2 y3 y4
    have x0 := HO.out.cell 0
    have x1 := HO.out.cell 1
    have x2 := HO.out.cell 2
    have x3 := HO.out.cell 3
    have x4 := HO.out.cell 4
    have y0 := HP.out.cell 0
    have y1 := HP.out.cell 1
    have y2 := HP.out.cell 2
    have y3 := HP.out.cell 3
    have y4 := HP.out.cell 4
    cases t2
    all_goals
      go_wp2
      go_ret
      exact ⟨by rw [HF.out]; rfl, HB.out⟩
  have hnf : ((fs.length : Int) != (fs2.length : Int)) = false := by rw [bne_eq_false_iff_eq]; omega
  have HLF := Lib.hid hlf
  clear hlf
  go_enter Try.func7, Try.ntmps7
  go_wp2_with fail
  with_reducible refine (T2.out _ HB.out).mono ?_
  rintro e1 w1 ⟨rfl, hb⟩
  replace HB := Lib.hid (HB.out.trans (hb.mono HB.out.size))
  replace HO := Lib.hid (HO.out.below hb HO.out.lt)
  replace HP := Lib.hid (HP.out.below hb HP.out.lt)
  clear hb T2 x0 x1 x2 x3 x4 y0 y1 y2 y3 y4
  have x0 := HO.out.cell 0
  have x1 := HO.out.cell 1
  have x2 := HO.out.cell 2
  have x3 := HO.out.cell 3
  have x4 := HO.out.cell 4
  have y0 := HP.out.cell 0
  have y1 := HP.out.cell 1
  have y2 := HP.out.cell 2
  have y3 := HP.out.cell 3
  have y4 := HP.out.cell 4
  cases t2
  · have HF := Lib.hid (show R = false by rw [HRR.out]; simp)
    go_wp2
    go_ret
    exact ⟨by rw [HF.out]; rfl, HB.out⟩
  go_wp2_with fail
  with_reducible refine (T4.out _ HB.out).mono ?_
  rintro e2 w2 ⟨rfl, hb⟩
  replace HB := Lib.hid (HB.out.trans (hb.mono HB.out.size))
  replace HO := Lib.hid (HO.out.below hb HO.out.lt)
  replace HP := Lib.hid (HP.out.below hb HP.out.lt)
  clear hb T4 x0 x1 x2 x3 x4 y0 y1 y2 y3 y4
  cases t4
  · have HF := Lib.hid (show R = false by rw [HRR.out]; simp)
    go_wp2
    go_ret
    exact ⟨by rw [HF.out]; rfl, HB.out⟩
  replace HRR := Lib.hid (show R = (twoL eqC cs cs2 && twoL eqF fs fs2) by rw [HRR.out]; simp)
  go_wp2
  clear hnc hnf hs
  go_loopw [5] (fun i wr => ∃ k : Nat, k ≤ cs.length ∧ i = .int .i64 k ∧ Hid (R = (twoL eqC (cs.drop k) (cs2.drop k) && twoL eqF fs fs2)) ∧ Hid (Own wr w.heap.size 27 #[.string na, .slice A1 cs.length c1, .slice A2 zs.length c2, .slice A3 fs.length c3, .slice A4 es.length c4]) ∧ Hid (Own wr (w.heap.size + 1) 27 #[.string nb, .slice B1 cs2.length d1, .slice B2 zs2.length d2, .slice B3 fs2.length d3, .slice B4 es2.length d4]) ∧ Below w.heap.size w wr) (fun i _ => cs.length - (intOf i).toNat)
  case atStart => exact ⟨0, Nat.zero_le _, rfl, HRR, HO, HP, HB.out⟩
  case round =>
    clear HRR HO HP HB
    obtain ⟨k, hk, rfl, HR, HO, HP, hbr⟩ := hrel
    have hbz := hbr.size
    have z1 := HO.out.cell 1
    by_cases hlt : k < cs.length
    · have hki : (k : Int) < cs.length := by omega
      have hlt2 : k < cs2.length := by have := HLC.out; omega
      have hki2 : (k : Int) < cs2.length := by omega
      have hki0 : (0 : Int) ≤ (k : Int) := by omega
      obtain ⟨ad, rfl, _, hab, c0, c1', c2'⟩ := HC1.out k _ (List.getElem?_eq_getElem hlt)
      obtain ⟨ad2, rfl, _, hab2, b0, b1, b2⟩ := HK1.out k _ (List.getElem?_eq_getElem hlt2)
      have hcd := twoL_drop eqC cs cs2 k _ _ (List.getElem?_eq_getElem hlt) (List.getElem?_eq_getElem hlt2)
      generalize cs[k] = a at *
      generalize cs2[k] = b at *
      obtain ⟨a0, a1, a2⟩ := a
      obtain ⟨g0, g1, g2⟩ := b
      dsimp only at c0 c1' c2' b0 b1 b2
      have bx1 : ∀ r : After wr, r.w.cell? ⟨w.heap.size, 1, none⟩ = some (.slice (some ad) cs.length c1) := after_cell HO.out.lt (HO.out.cell 1)
      have by1 : ∀ r : After wr, r.w.cell? ⟨w.heap.size + 1, 1, none⟩ = some (.slice (some ad2) cs2.length d1) := after_cell HP.out.lt (HP.out.cell 1)
      have q1 : ∀ r : After wr, r.w.cell? (ad.add (k * 3)) = some (.string a0) := after_cell (a := (ad.add (k * 3))) (by show (ad.add (k * 3)).block < _; rw [add_block]; omega) ((hbr.cell (p := (ad.add (k * 3))) (by show (ad.add (k * 3)).block < _; rw [add_block]; exact hab)).trans c0)
      have q2 : ∀ r : After wr, r.w.cell? ⟨(ad.add (k * 3)).block, (ad.add (k * 3)).off + 1, none⟩ = some (.int .i64 a1) := after_cell (a := ⟨(ad.add (k * 3)).block, (ad.add (k * 3)).off + 1, none⟩) (by show (ad.add (k * 3)).block < _; rw [add_block]; omega) ((hbr.cell (p := ⟨(ad.add (k * 3)).block, (ad.add (k * 3)).off + 1, none⟩) (by show (ad.add (k * 3)).block < _; rw [add_block]; exact hab)).trans c1')
      have q3 : ∀ r : After wr, r.w.cell? ⟨(ad.add (k * 3)).block, (ad.add (k * 3)).off + 2, none⟩ = some (.bool a2) := after_cell (a := ⟨(ad.add (k * 3)).block, (ad.add (k * 3)).off + 2, none⟩) (by show (ad.add (k * 3)).block < _; rw [add_block]; omega) ((hbr.cell (p := ⟨(ad.add (k * 3)).block, (ad.add (k * 3)).off + 2, none⟩) (by show (ad.add (k * 3)).block < _; rw [add_block]; exact hab)).trans c2')
      have q4 : ∀ r : After wr, r.w.cell? (ad2.add (k * 3)) = some (.string g0) := after_cell (a := (ad2.add (k * 3))) (by show (ad2.add (k * 3)).block < _; rw [add_block]; omega) ((hbr.cell (p := (ad2.add (k * 3))) (by show (ad2.add (k * 3)).block < _; rw [add_block]; exact hab2)).trans b0)
      have q5 : ∀ r : After wr, r.w.cell? ⟨(ad2.add (k * 3)).block, (ad2.add (k * 3)).off + 1, none⟩ = some (.int .i64 g1) := after_cell (a := ⟨(ad2.add (k * 3)).block, (ad2.add (k * 3)).off + 1, none⟩) (by show (ad2.add (k * 3)).block < _; rw [add_block]; omega) ((hbr.cell (p := ⟨(ad2.add (k * 3)).block, (ad2.add (k * 3)).off + 1, none⟩) (by show (ad2.add (k * 3)).block < _; rw [add_block]; exact hab2)).trans b1)
      have q6 : ∀ r : After wr, r.w.cell? ⟨(ad2.add (k * 3)).block, (ad2.add (k * 3)).off + 2, none⟩ = some (.bool g2) := after_cell (a := ⟨(ad2.add (k * 3)).block, (ad2.add (k * 3)).off + 2, none⟩) (by show (ad2.add (k * 3)).block < _; rw [add_block]; omega) ((hbr.cell (p := ⟨(ad2.add (k * 3)).block, (ad2.add (k * 3)).off + 2, none⟩) (by show (ad2.add (k * 3)).block < _; rw [add_block]; exact hab2)).trans b2)
      have q := fun W => neq_col a0 a1 a2 g0 g1 g2 W
      have HCD := Lib.hid hcd
      clear hcd c0 c1' c2' b0 b1 b2
      cases hab3 : eqC (a0, a1, a2) (g0, g1, g2)
      · have HF := Lib.hid (show R = false by rw [HR.out, HCD.out, hab3]; rfl)
        rw [hab3] at q
        clear HCD HR hab3
        go_wp2_with fail
        (refine wp_region_after (by kernel_rfl) (by kernel_rfl) ?_; (repeat (go_big_quiet_step (fail))); refine wpQuiet_nil ?_; intro wq hw0; obtain ⟨⟨wq0, hbq⟩, hw1⟩ := hw0; subst hw1; (try dsimp only))
        clear q1 q2 q3 q4 q5 q6 bx1 by1 q z1
        go_wp2
        go_ret
        exact ⟨by rw [HF.out]; rfl, hbr.trans (hbq.mono hbz)⟩
      · have HF := Lib.hid (show R = (twoL eqC (cs.drop (k + 1)) (cs2.drop (k + 1)) && twoL eqF fs fs2) by rw [HR.out, HCD.out, hab3, Bool.true_and])
        rw [hab3] at q
        clear HCD HR hab3
        go_wp2_with fail
        (refine wp_region_after (by kernel_rfl) (by kernel_rfl) ?_; (repeat (go_big_quiet_step (fail))); refine wpQuiet_nil ?_; intro wq hw0; obtain ⟨⟨wq0, hbq⟩, hw1⟩ := hw0; subst hw1; (try dsimp only))
        have HO9 := Lib.hid (HO.out.below hbq HO.out.lt)
        have HP9 := Lib.hid (HP.out.below hbq HP.out.lt)
        clear q1 q2 q3 q4 q5 q6 bx1 by1 q z1
        go_wp2
        go_roundw
        case rel => exact ⟨k + 1, by omega, by go_num, HF, HO9, HP9, hbr.trans (hbq.mono hbz)⟩
        case measure => simp [intOf]; omega
    · have hki : ¬ (k : Int) < cs.length := by omega
      have HF := Lib.hid (show R = twoL eqF fs fs2 by rw [HR.out, List.drop_eq_nil_of_le (show cs.length ≤ k by omega), List.drop_eq_nil_of_le (show cs2.length ≤ k by have := HLC.out; omega)]; rfl)
      have HBR := Lib.hid hbr
      clear HR HC1 HK1 HLC
      go_wp2
      clear z1 hki
      go_loopw [6] (fun i wr => ∃ k : Nat, k ≤ fs.length ∧ i = .int .i64 k ∧ Hid (R = twoL eqF (fs.drop k) (fs2.drop k)) ∧ Hid (Own wr w.heap.size 27 #[.string na, .slice A1 cs.length c1, .slice A2 zs.length c2, .slice A3 fs.length c3, .slice A4 es.length c4]) ∧ Hid (Own wr (w.heap.size + 1) 27 #[.string nb, .slice B1 cs2.length d1, .slice B2 zs2.length d2, .slice B3 fs2.length d3, .slice B4 es2.length d4]) ∧ Below w.heap.size w wr) (fun i _ => fs.length - (intOf i).toNat)
      case atStart => exact ⟨0, Nat.zero_le _, rfl, HF, HO, HP, HBR.out⟩
      case round =>
        clear HF HO HP HBR hbr hbz hk hlt
        obtain ⟨k, hk, rfl, HR, HO, HP, hbr⟩ := hrel
        have hbz := hbr.size
        have z3 := HO.out.cell 3
        by_cases hlt : k < fs.length
        · have hki : (k : Int) < fs.length := by omega
          have hlt2 : k < fs2.length := by have := HLF.out; omega
          have hki2 : (k : Int) < fs2.length := by omega
          have hki0 : (0 : Int) ≤ (k : Int) := by omega
          obtain ⟨ad, x, rfl, _, hab, c0, c1', hxr⟩ := HC3.out k _ (List.getElem?_eq_getElem hlt)
          obtain ⟨ad2, x2, rfl, _, hab2, b0, b1, hxr2⟩ := HK3.out k _ (List.getElem?_eq_getElem hlt2)
          have hcd := twoL_drop eqF fs fs2 k _ _ (List.getElem?_eq_getElem hlt) (List.getElem?_eq_getElem hlt2)
          generalize fs[k] = a at *
          generalize fs2[k] = b at *
          obtain ⟨za, sa⟩ := a
          obtain ⟨zb, sb⟩ := b
          dsimp only at c0 c1' b0 b1 hxr hxr2
          have HXI := Lib.hid (fun r : After wr => rInts_any x x2 za zb r.w 0 0 (hxr.step (hbr.trans (r.h.mono hbz)) (Nat.le_refl _)) (hxr2.step (hbr.trans (r.h.mono hbz)) (Nat.le_refl _)))
          obtain ⟨A5, n5, c5, rfl⟩ : ∃ A n c, x = .slice A n c := by obtain ⟨A, c, h, _⟩ := hxr; exact ⟨_, _, _, h⟩
          obtain ⟨A6, n6, c6, rfl⟩ : ∃ A n c, x2 = .slice A n c := by obtain ⟨A, c, h, _⟩ := hxr2; exact ⟨_, _, _, h⟩
          have bx3 : ∀ r : After wr, r.w.cell? ⟨w.heap.size, 3, none⟩ = some (.slice (some ad) fs.length c3) := after_cell HO.out.lt (HO.out.cell 3)
          have by3 : ∀ r : After wr, r.w.cell? ⟨w.heap.size + 1, 3, none⟩ = some (.slice (some ad2) fs2.length d3) := after_cell HP.out.lt (HP.out.cell 3)
          have q1 : ∀ r : After wr, r.w.cell? (ad.add (k * 2)) = some (.slice A5 n5 c5) := after_cell (a := (ad.add (k * 2))) (by show (ad.add (k * 2)).block < _; rw [add_block]; omega) ((hbr.cell (p := (ad.add (k * 2))) (by show (ad.add (k * 2)).block < _; rw [add_block]; exact hab)).trans c0)
          have q2 : ∀ r : After wr, r.w.cell? ⟨(ad.add (k * 2)).block, (ad.add (k * 2)).off + 1, none⟩ = some (.string sa) := after_cell (a := ⟨(ad.add (k * 2)).block, (ad.add (k * 2)).off + 1, none⟩) (by show (ad.add (k * 2)).block < _; rw [add_block]; omega) ((hbr.cell (p := ⟨(ad.add (k * 2)).block, (ad.add (k * 2)).off + 1, none⟩) (by show (ad.add (k * 2)).block < _; rw [add_block]; exact hab)).trans c1')
          have q3 : ∀ r : After wr, r.w.cell? (ad2.add (k * 2)) = some (.slice A6 n6 c6) := after_cell (a := (ad2.add (k * 2))) (by show (ad2.add (k * 2)).block < _; rw [add_block]; omega) ((hbr.cell (p := (ad2.add (k * 2))) (by show (ad2.add (k * 2)).block < _; rw [add_block]; exact hab2)).trans b0)
          have q4 : ∀ r : After wr, r.w.cell? ⟨(ad2.add (k * 2)).block, (ad2.add (k * 2)).off + 1, none⟩ = some (.string sb) := after_cell (a := ⟨(ad2.add (k * 2)).block, (ad2.add (k * 2)).off + 1, none⟩) (by show (ad2.add (k * 2)).block < _; rw [add_block]; omega) ((hbr.cell (p := ⟨(ad2.add (k * 2)).block, (ad2.add (k * 2)).off + 1, none⟩) (by show (ad2.add (k * 2)).block < _; rw [add_block]; exact hab2)).trans b1)
          unfold eqF at hcd
          dsimp only at hcd
          rw [twoI_dec] at hcd
          generalize decide (za = zb) = ti at *
          have HCD := Lib.hid hcd
          clear hcd c0 c1' b0 b1 hxr hxr2
          cases hss : (sa.toList == sb.toList)
          · have HF := Lib.hid (show R = false by rw [HR.out]; exact HCD.out.trans (by rw [hss]; rfl))
            clear HCD HR
            go_wp2_with fail
            (refine wp_region_after (by kernel_rfl) (by kernel_rfl) ?_; (repeat (go_big_quiet_step (fail))); refine wpQuiet_nil ?_; intro wq hw0; obtain ⟨⟨wq0, hbq⟩, hw1⟩ := hw0; subst hw1; (try dsimp only))
            clear q1 q2 q3 q4 bx3 by3 z3
            go_wp2
            go_ret
            exact ⟨by rw [HF.out]; rfl, hbr.trans (hbq.mono hbz)⟩
          · cases ti
            · have HF := Lib.hid (show R = false by rw [HR.out]; exact HCD.out.trans (by rw [hss]; rfl))
              clear HCD HR
              go_wp2_with fail
              (refine wp_region_after (by kernel_rfl) (by kernel_rfl) ?_; (repeat (go_big_quiet_step ((go_at_call 17; exact calls_after (HXI.out _))))); refine wpQuiet_nil ?_; intro wq hw0; obtain ⟨⟨wq0, hbq⟩, hw1⟩ := hw0; subst hw1; (try dsimp only))
              clear q1 q2 q3 q4 bx3 by3 z3
              go_wp2
              go_ret
              exact ⟨by rw [HF.out]; rfl, hbr.trans (hbq.mono hbz)⟩
            · have HF := Lib.hid (show R = twoL eqF (fs.drop (k + 1)) (fs2.drop (k + 1)) by rw [HR.out]; exact HCD.out.trans (by rw [hss]; rfl))
              clear HCD HR
              go_wp2_with fail
              (refine wp_region_after (by kernel_rfl) (by kernel_rfl) ?_; (repeat (go_big_quiet_step ((go_at_call 17; exact calls_after (HXI.out _))))); refine wpQuiet_nil ?_; intro wq hw0; obtain ⟨⟨wq0, hbq⟩, hw1⟩ := hw0; subst hw1; (try dsimp only))
              have HO9 := Lib.hid (HO.out.below hbq HO.out.lt)
              have HP9 := Lib.hid (HP.out.below hbq HP.out.lt)
              clear q1 q2 q3 q4 bx3 by3 z3
              go_wp2
              go_roundw
              case rel => exact ⟨k + 1, by omega, by go_num, HF, HO9, HP9, hbr.trans (hbq.mono hbz)⟩
              case measure => simp [intOf]; omega
        · have hki : ¬ (k : Int) < fs.length := by omega
          have HF := Lib.hid (show R = true by rw [HR.out, List.drop_eq_nil_of_le (show fs.length ≤ k by omega), List.drop_eq_nil_of_le (show fs2.length ≤ k by have := HLF.out; omega)]; rfl)
          clear HR
          go_wp2
          go_ret
          exact ⟨by rw [HF.out]; rfl, hbr⟩
end Go.Proofs.Yteihjneeiojgaaa
