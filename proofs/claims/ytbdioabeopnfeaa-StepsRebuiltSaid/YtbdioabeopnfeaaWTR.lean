/-
  The walk of the statement StepsRebuilt. Conditions: the list is read anywhere below the heap's end.
-/
import Derived.Test.YtbdioabeopnfeaaStMa
import Derived.Test.YtbdioabeopnfeaaStMe
import Derived.WalkKit
import Derived.WalkSpells
import Derived.WalkLawsBesides
import Derived.Deep.QuietTactic
import Derived.BigQuiet
import Derived.Handy
import Derived.Lib.Hide
namespace Go.Proofs.Ytbdioabeopnfeaa
open Go.RowKit

set_option maxRecDepth 100000 in
set_option maxHeartbeats 12800000 in
theorem law_rebuilt (vl : Value) (l : List (Int × Int))  (w : World) (Ll : Nat) (hvl : RdP w Ll w.heap.size vl l) :
    Calls Try.prog 9 #[vl] w fun e w' => e = .returned (.bool true) ∧ Below w.heap.size w w' := by
  have Hl := Lib.hid hvl
  obtain ⟨Al, cl, rfl, _, _⟩ := hvl
  cases hfl : fineL l
  · skip
    go_enter Try.func9, Try.ntmps9
    have hx1 := fine_any _ l _ _ Hl.out
    rw [hfl] at hx1
    go_wp2_with fail
    refine hx1.mono ?_
    rintro e w1 ⟨rfl, hb1⟩
    clear hx1
    replace Hl := Lib.hid (Hl.out.step hb1 (Nat.le_refl _))
    have B1 := hb1
    have Z1 := B1.size
    clear hb1
    have hx2 := awake_any w1
    go_wp2_with fail
    refine hx2.mono ?_
    rintro e w2 ⟨rfl, hb2⟩
    clear hx2
    replace Hl := Lib.hid (Hl.out.step hb2 (Nat.le_refl _))
    have B2 := B1.trans (hb2.mono Z1)
    have Z2 := B2.size
    clear hb2
    go_wp2
    go_ret
    exact ⟨rfl, B2⟩
  obtain ⟨ll, vl⟩ := fineL_iff.1 hfl
  by_cases hg : grt l l.length > 12
  · skip
    go_enter Try.func9, Try.ntmps9
    have hx3 := fine_any _ l _ _ Hl.out
    rw [hfl] at hx3
    go_wp2_with fail
    refine hx3.mono ?_
    rintro e w3 ⟨rfl, hb3⟩
    clear hx3
    replace Hl := Lib.hid (Hl.out.step hb3 (Nat.le_refl _))
    have B3 := hb3
    have Z3 := B3.size
    clear hb3
    have hx4 := rGreatest_any _ l _ _ Hl.out
    go_wp2_with fail
    refine hx4.mono ?_
    rintro e w4 ⟨rfl, hb4⟩
    clear hx4
    replace Hl := Lib.hid (Hl.out.step hb4 (Nat.le_refl _))
    have B4 := B3.trans (hb4.mono Z3)
    have Z4 := B4.size
    clear hb4
    have hx5 := awake_any w4
    go_wp2_with fail
    refine hx5.mono ?_
    rintro e w5 ⟨rfl, hb5⟩
    clear hx5
    replace Hl := Lib.hid (Hl.out.step hb5 (Nat.le_refl _))
    have B5 := B4.trans (hb5.mono Z4)
    have Z5 := B5.size
    clear hb5
    go_wp2
    go_ret
    exact ⟨rfl, B5⟩
  have hcl : ∀ p ∈ l, p.2 ≤ 12 := fun p hp => by have := grt_le p hp; omega
  by_cases hcm : cmbL 4 l [(0, 0)] = l
  rotate_left
  · skip
    have HDC : Hid (decide (cmbL 4 l [(0, 0)] = l) = false) := Lib.hid (decide_eq_false hcm)
    clear hcm
    go_enter Try.func9, Try.ntmps9
    have hx6 := fine_any _ l _ _ Hl.out
    rw [hfl] at hx6
    go_wp2_with fail
    refine hx6.mono ?_
    rintro e w6 ⟨rfl, hb6⟩
    clear hx6
    replace Hl := Lib.hid (Hl.out.step hb6 (Nat.le_refl _))
    have B6 := hb6
    have Z6 := B6.size
    clear hb6
    have hx7 := rGreatest_any _ l _ _ Hl.out
    go_wp2_with fail
    refine hx7.mono ?_
    rintro e w7 ⟨rfl, hb7⟩
    clear hx7
    replace Hl := Lib.hid (Hl.out.step hb7 (Nat.le_refl _))
    have B7 := B6.trans (hb7.mono Z6)
    have Z7 := B7.size
    clear hb7
    have hx8 := rClip_any _ l _ _ Hl.out (by omega)
    go_wp2_with fail
    refine hx8.mono ?_
    rintro e w8 ⟨v8, rfl, hr8, hb8⟩
    clear hx8
    replace Hl := Lib.hid (Hl.out.step hb8 (Nat.le_refl _))
    have B8 := B7.trans (hb8.mono Z7)
    have Z8 := B8.size
    have H8 := Lib.hid hr8
    obtain ⟨A8, c8, rfl, _, _⟩ := hr8
    clear hb8
    have hx9 := sameT_any _ _ _ _ _ _ _ H8.out Hl.out
    rw [HDC.out] at hx9
    go_wp2_with fail
    refine hx9.mono ?_
    rintro e w9 ⟨rfl, hb9⟩
    clear hx9
    replace Hl := Lib.hid (Hl.out.step hb9 (Nat.le_refl _))
    replace H8 := Lib.hid (H8.out.step hb9 (Nat.le_refl _))
    have B9 := B8.trans (hb9.mono Z8)
    have Z9 := B9.size
    clear hb9
    clear H8
    have hx10 := awake_any w9
    go_wp2_with fail
    refine hx10.mono ?_
    rintro e w10 ⟨rfl, hb10⟩
    clear hx10
    replace Hl := Lib.hid (Hl.out.step hb10 (Nat.le_refl _))
    have B10 := B9.trans (hb10.mono Z9)
    have Z10 := B10.size
    clear hb10
    go_wp2
    go_ret
    exact ⟨rfl, B10⟩
  have HDC : Hid (decide (cmbL 4 l [(0, 0)] = l) = true) := Lib.hid (decide_eq_true hcm)
  have hll := lev_len vl ll hcl
  have HRb := Lib.hid (lev_rebuilt vl hcl hcm)
  have HSo := Lib.hid (levL_perm vl (K := 12) (by decide) (cl12 hcl)).1
  clear hcm
  go_enter Try.func9, Try.ntmps9
  have hx11 := fine_any _ l _ _ Hl.out
  rw [hfl] at hx11
  go_wp2_with fail
  refine hx11.mono ?_
  rintro e w11 ⟨rfl, hb11⟩
  clear hx11
  replace Hl := Lib.hid (Hl.out.step hb11 (Nat.le_refl _))
  have B11 := hb11
  have Z11 := B11.size
  clear hb11
  have hx12 := rGreatest_any _ l _ _ Hl.out
  go_wp2_with fail
  refine hx12.mono ?_
  rintro e w12 ⟨rfl, hb12⟩
  clear hx12
  replace Hl := Lib.hid (Hl.out.step hb12 (Nat.le_refl _))
  have B12 := B11.trans (hb12.mono Z11)
  have Z12 := B12.size
  clear hb12
  have hx13 := rClip_any _ l _ _ Hl.out (by omega)
  go_wp2_with fail
  refine hx13.mono ?_
  rintro e w13 ⟨v13, rfl, hr13, hb13⟩
  clear hx13
  replace Hl := Lib.hid (Hl.out.step hb13 (Nat.le_refl _))
  have B13 := B12.trans (hb13.mono Z12)
  have Z13 := B13.size
  have H13 := Lib.hid hr13
  obtain ⟨A13, c13, rfl, _, _⟩ := hr13
  clear hb13
  have hx14 := sameT_any _ _ _ _ _ _ _ H13.out Hl.out
  rw [HDC.out] at hx14
  go_wp2_with fail
  refine hx14.mono ?_
  rintro e w14 ⟨rfl, hb14⟩
  clear hx14
  replace Hl := Lib.hid (Hl.out.step hb14 (Nat.le_refl _))
  replace H13 := Lib.hid (H13.out.step hb14 (Nat.le_refl _))
  have B14 := B13.trans (hb14.mono Z13)
  have Z14 := B14.size
  clear hb14
  clear H13
  have hx15 := pLevels_any _ l _ _ Hl.out (by omega) (by omega)
  go_wp2_with fail
  refine hx15.mono ?_
  rintro e w15 ⟨v15, rfl, hr15, hb15⟩
  clear hx15
  replace Hl := Lib.hid (Hl.out.step hb15 (Nat.le_refl _))
  have B15 := B14.trans (hb15.mono Z14)
  have Z15 := B15.size
  have H15 := Lib.hid hr15
  obtain ⟨A15, c15, rfl, _, _⟩ := hr15
  clear hb15
  have HP := H15
  have BW := B15
  have HL := Hl
  clear hg
  generalize levL l = LV at *
  go_wp2
  generalize w15 = W at *
  go_loopw [4, 5] (fun c i wr => ∃ j : Nat, j ≤ LV.length ∧ i = .int .i64 j ∧ wr.ownsRow W.heap.size 42 3 c ((LV.take j).map oneP).length (flatB ((LV.take j).map oneP)) ∧ Below W.heap.size W wr) (fun _ i _ => LV.length - (intOf i).toNat)
  case atStart => exact ⟨0, by omega, rfl, own_nilC _ _, Below.refl _ _⟩
  case round =>
    obtain ⟨j, hj, rfl, hown, hbr⟩ := hrel
    have hbz := hbr.size
    have OR := Lib.hid hown
    clear hown
    by_cases hlt : j < LV.length
    · have hx := List.getElem?_eq_getElem hlt
      generalize LV[j] = s at hx
      obtain ⟨x, y⟩ := s
      have i2 : (0 : Int) ≤ (j : Int) := by omega
      have i3 : (j : Int) < (LV.length : Int) := by omega
      have HPr := HP.out.step hbr (Nat.le_refl _)
      obtain ⟨ad, hA, _, hab, d0, d1⟩ := HPr.at hx
      dsimp only at d0 d1
      have hS : Hid ((LV.take (j + 1)).map oneP = (LV.take j).map oneP ++ [(x, y, 1)]) := Lib.hid (by rw [take_snocP hx, List.map_append]; rfl)
      have htl : ((LV.take j).map oneP).length ≤ 1000 := by rw [List.length_map, List.length_take]; omega
      have hk2 := fun (p : After wr) => after_cell (by rw [add_block]; exact hab) d0 p
      have hk3 := fun (p : After wr) => after_cell (a := ⟨(ad.add (j * 2)).block, (ad.add (j * 2)).off + 1, none⟩) (by show (ad.add (j * 2)).block < _; rw [add_block]; exact hab) d1 p
      cases j with
      | zero =>
        subst hA
        clear hx HPr
        generalize (LV.take 0).map oneP = TL at *
        go_wp2
        (refine wp_region_after (by kernel_rfl) (by kernel_rfl) ?_; (repeat (go_big_quiet_step (fail))); refine wpQuiet_nil ?_; intro wq hw0; obtain ⟨⟨wq0, hbq⟩, hw1⟩ := hw0; subst hw1; (try dsimp only))
        have dq0 := (hbq.cell (p := ad.add (0 * 2)) (by rw [add_block]; exact hab)).trans d0
        have dq1 := (hbq.cell (p := ⟨(ad.add (0 * 2)).block, (ad.add (0 * 2)).off + 1, none⟩) (by show (ad.add (0 * 2)).block < _; rw [add_block]; exact hab)).trans d1
        have dq2 : wq.cell? ad = some (.int .i64 x) := dq0
        have dq3 : wq.cell? ⟨ad.block, ad.off + 1, none⟩ = some (.int .i64 y) := dq1
        have OQ := Lib.hid (own_below OR.out hbq)
        have zq := hbq.size
        go_wp2_with (at_builtin; refine append_pc _ rfl _ _ rfl W.heap.size _ TL rfl (World.ownsRow.alloc OQ.out _) ⟨wq.heap.size, 0, none⟩ (x, y, 1) rfl (World.news_of_block (heap_alloc_new _ _)) ?_ ?_ _ rfl ?_; (focus omega); (focus go_size); intro g3 c3 w3 hown3 hb3 hg3 hlie3 hlt3)
        go_roundw
        case rel => exact ⟨0 + 1, by omega, by go_num, by rw [hS.out]; exact hown3, hbr.trans ((hbq.mono hbz).trans (((Below.refl _ _).alloc (by omega) _).trans hb3))⟩
        case measure => simp [intOf] <;> omega
      | succ j' =>
        have hx2 := List.getElem?_eq_getElem (show j' < LV.length by omega)
        generalize LV[j'] = s2 at hx2
        obtain ⟨x2, y2⟩ := s2
        obtain ⟨ad', hA', _, _, c0, c1⟩ := HPr.at hx2
        rw [hA] at hA'
        injection hA' with hA'
        subst hA'
        dsimp only at c0 c1
        have hk0 := fun (p : After wr) => after_cell (by rw [add_block]; exact hab) c0 p
        have hk1 := fun (p : After wr) => after_cell (a := ⟨(ad.add (j' * 2)).block, (ad.add (j' * 2)).off + 1, none⟩) (by show (ad.add (j' * 2)).block < _; rw [add_block]; exact hab) c1 p
        have hle : ¬ 0 < cmpP x2 y2 x y := by
          obtain ⟨h1, e1⟩ := List.getElem?_eq_some_iff.1 hx2
          obtain ⟨h2, e2⟩ := List.getElem?_eq_some_iff.1 hx
          have := List.pairwise_iff_getElem.1 HSo.out j' (j' + 1) h1 h2 (Nat.lt_succ_self _)
          rw [e1, e2] at this
          unfold lexL at this
          have := of_decide_eq_true this
          dsimp only at this
          omega
        have HC := Lib.hid (fun w' => rcompare_any x2 y2 x y w')
        subst hA
        clear hx hx2 HPr
        generalize cmpP x2 y2 x y = cc at *
        generalize (LV.take (j' + 1)).map oneP = TL at *
        go_wp2
        (refine wp_region_after (by kernel_rfl) (by kernel_rfl) ?_; (repeat (go_big_quiet_step ((go_at_call 36; with_reducible exact calls_after (HC.out _))))); refine wpQuiet_nil ?_; intro wq hw0; obtain ⟨⟨wq0, hbq⟩, hw1⟩ := hw0; subst hw1; (try dsimp only))
        have dq0 := (hbq.cell (p := ad.add ((j' + 1) * 2)) (by rw [add_block]; exact hab)).trans d0
        have dq1 := (hbq.cell (p := ⟨(ad.add ((j' + 1) * 2)).block, (ad.add ((j' + 1) * 2)).off + 1, none⟩) (by show (ad.add ((j' + 1) * 2)).block < _; rw [add_block]; exact hab)).trans d1
        have OQ := Lib.hid (own_below OR.out hbq)
        have zq := hbq.size
        go_wp2_with (at_builtin; refine append_pc _ rfl _ _ rfl W.heap.size _ TL rfl (World.ownsRow.alloc OQ.out _) ⟨wq.heap.size, 0, none⟩ (x, y, 1) rfl (World.news_of_block (heap_alloc_new _ _)) ?_ ?_ _ rfl ?_; (focus omega); (focus go_size); intro g3 c3 w3 hown3 hb3 hg3 hlie3 hlt3)
        go_roundw
        case rel => exact ⟨(j' + 1) + 1, by omega, by go_num, by rw [hS.out]; exact hown3, hbr.trans ((hbq.mono hbz).trans (((Below.refl _ _).alloc (by omega) _).trans hb3))⟩
        case measure => simp [intOf] <;> omega
    · have hd : ¬ (j : Int) < (LV.length : Int) := by omega
      have hT : LV.take j = LV := List.take_of_length_le (by omega)
      rw [hT] at OR
      have hml : (LV.map oneP).length ≤ 288 := by rw [List.length_map]; exact hll
      have RC := Lib.hid (RdB.of_ownC OR.out (by omega))
      obtain ⟨A9, n9, c9, hu⟩ := own_slice OR.out
      rw [hu] at RC
      have HL2 := Lib.hid (HL.out.step hbr (Nat.le_refl _))
      clear hT OR
      subst hu
      have hxo := pStOf_any _ (LV.map oneP) wr _ RC.out (by omega)
      rw [HRb.out] at hxo
      go_wp2_with fail
      refine hxo.mono ?_
      rintro e w7 ⟨v7, rfl, hr7, hb7⟩
      have H7 := Lib.hid hr7
      obtain ⟨A7, c7, rfl, _, _⟩ := hr7
      have HL7 := Lib.hid (HL2.out.step hb7 (Nat.le_refl _))
      clear hxo
      have hxs := sameT_any _ _ _ _ _ _ _ H7.out HL7.out
      rw [decide_eq_true rfl] at hxs
      go_wp2_with fail
      refine hxs.mono ?_
      rintro e w8 ⟨rfl, hb8⟩
      have hxA := awake_any w8
      go_wp2_with fail
      refine hxA.mono ?_
      rintro e w9 ⟨rfl, hb9⟩
      have z7 := hb7.size
      have z8 := hb8.size
      have BF := BW.trans ((hbr.trans ((hb7.trans ((hb8.trans (hb9.mono z8)).mono z7)).mono hbz)).mono BW.size)
      go_wp2
      go_ret
      exact ⟨rfl, BF⟩
end Go.Proofs.Ytbdioabeopnfeaa
