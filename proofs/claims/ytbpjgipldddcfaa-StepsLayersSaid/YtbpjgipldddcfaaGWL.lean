import Derived.Test.YtbpjgipldddcfaaGMa
import Derived.Test.YtbpjgipldddcfaaGMe
import Derived.WalkKit
import Derived.WalkSpells
import Derived.WalkLawsBesides
import Derived.Deep.QuietTactic
import Derived.BigQuiet
import Derived.Handy
import Derived.Lib.Hide
/-
  The walk of the statement StepsLayers. Conditions: the list is read anywhere below the heap's end; the number is an int.
-/
namespace Go.Proofs.Ytbpjgipldddcfaa
set_option maxRecDepth 100000
set_option linter.unusedVariables false
set_option linter.unusedSimpArgs false
open Go.RowKit
theorem cov_levels {l : List (Int × Int)} (hv : stV l = true) (n : Int) : covB (atL n l) (atL (n + 1) l) = true := by
  have h : comb fSub (atL (n + 1) l) (atL n l) = [] := by
    refine sp_ext (z' := -1) (comb_sp rfl _ _) rfl fun t => ?_
    rw [comb_mem rfl, memL_nil]
    show (memL (atL (n + 1) l) t && !memL (atL n l) t) = false
    cases h1 : memL (atL (n + 1) l) t with
    | false => rfl
    | true => rw [atL_sub hv (by omega) t h1]; rfl
  unfold covB
  rw [h]
  rfl

set_option maxRecDepth 100000 in
set_option maxHeartbeats 12800000 in
theorem law_layers (vl : Value) (l : List (Int × Int)) (t : Int) (w : World) (Ll : Nat) (hvl : RdP w Ll w.heap.size vl l) (hwt : -9223372036854775808 ≤ t) :
    Calls Try.prog 4 #[vl, .int .i64 t] w fun e w' => e = .returned (.bool true) ∧ Below w.heap.size w w' := by
  have Hl := Lib.hid hvl
  obtain ⟨Al, cl, rfl, _, _⟩ := hvl
  cases hfl : fineL l
  · skip
    go_enter Try.func4, Try.ntmps4
    have hx1 := fine_any _ l _ _ Hl.out
    rw [hfl] at hx1
    go_wp2_with fail
    refine hx1.mono ?_
    rintro e w1 ⟨rfl, hb1⟩
    clear hx1
    replace Hl := Lib.hid (Hl.out.step hb1 (Nat.le_refl _))
    have B1 := hb1
    have Z1 := B1.size
    clear hb1
    have hx2 := awake_any w1
    go_wp2_with fail
    refine hx2.mono ?_
    rintro e w2 ⟨rfl, hb2⟩
    clear hx2
    replace Hl := Lib.hid (Hl.out.step hb2 (Nat.le_refl _))
    have B2 := B1.trans (hb2.mono Z1)
    have Z2 := B2.size
    clear hb2
    go_wp2
    go_ret
    exact ⟨rfl, B2⟩
  obtain ⟨ll, vl⟩ := fineL_iff.1 hfl
  by_cases hg : grt l l.length > 12
  · skip
    go_enter Try.func4, Try.ntmps4
    have hx3 := fine_any _ l _ _ Hl.out
    rw [hfl] at hx3
    go_wp2_with fail
    refine hx3.mono ?_
    rintro e w3 ⟨rfl, hb3⟩
    clear hx3
    replace Hl := Lib.hid (Hl.out.step hb3 (Nat.le_refl _))
    have B3 := hb3
    have Z3 := B3.size
    clear hb3
    have hx4 := rGreatest_any _ l _ _ Hl.out
    go_wp2_with fail
    refine hx4.mono ?_
    rintro e w4 ⟨rfl, hb4⟩
    clear hx4
    replace Hl := Lib.hid (Hl.out.step hb4 (Nat.le_refl _))
    have B4 := B3.trans (hb4.mono Z3)
    have Z4 := B4.size
    clear hb4
    have hx5 := awake_any w4
    go_wp2_with fail
    refine hx5.mono ?_
    rintro e w5 ⟨rfl, hb5⟩
    clear hx5
    replace Hl := Lib.hid (Hl.out.step hb5 (Nat.le_refl _))
    have B5 := B4.trans (hb5.mono Z4)
    have Z5 := B5.size
    clear hb5
    go_wp2
    go_ret
    exact ⟨rfl, B5⟩
  have hcl : ∀ p ∈ l, p.2 ≤ 12 := fun p hp => by have := grt_le p hp; omega
  by_cases ht : t > 12
  · skip
    go_enter Try.func4, Try.ntmps4
    have hx6 := fine_any _ l _ _ Hl.out
    rw [hfl] at hx6
    go_wp2_with fail
    refine hx6.mono ?_
    rintro e w6 ⟨rfl, hb6⟩
    clear hx6
    replace Hl := Lib.hid (Hl.out.step hb6 (Nat.le_refl _))
    have B6 := hb6
    have Z6 := B6.size
    clear hb6
    have hx7 := rGreatest_any _ l _ _ Hl.out
    go_wp2_with fail
    refine hx7.mono ?_
    rintro e w7 ⟨rfl, hb7⟩
    clear hx7
    replace Hl := Lib.hid (Hl.out.step hb7 (Nat.le_refl _))
    have B7 := B6.trans (hb7.mono Z6)
    have Z7 := B7.size
    clear hb7
    have hx8 := awake_any w7
    go_wp2_with fail
    refine hx8.mono ?_
    rintro e w8 ⟨rfl, hb8⟩
    clear hx8
    replace Hl := Lib.hid (Hl.out.step hb8 (Nat.le_refl _))
    have B8 := B7.trans (hb8.mono Z7)
    have Z8 := B8.size
    clear hb8
    go_wp2
    go_ret
    exact ⟨rfl, B8⟩
  have hll := lev_len vl ll hcl
  have hw : wrap64 (t + 1) = t + 1 := by unfold wrap64; omega
  have hof := ofL_hi vl t
  have hof1 := ofL_hi vl (t + 1)
  have hcov := cov_levels vl t
  have la1 := atL_len t l
  have la2 := atL_len (t + 1) l
  have HN := Lib.hid (fun p hp q hq => lev_nest vl hcl (p := p) (q := q) hp hq)
  go_enter Try.func4, Try.ntmps4
  have hx9 := fine_any _ l _ _ Hl.out
  rw [hfl] at hx9
  go_wp2_with fail
  refine hx9.mono ?_
  rintro e w9 ⟨rfl, hb9⟩
  clear hx9
  replace Hl := Lib.hid (Hl.out.step hb9 (Nat.le_refl _))
  have B9 := hb9
  have Z9 := B9.size
  clear hb9
  have hx10 := rGreatest_any _ l _ _ Hl.out
  go_wp2_with fail
  refine hx10.mono ?_
  rintro e w10 ⟨rfl, hb10⟩
  clear hx10
  replace Hl := Lib.hid (Hl.out.step hb10 (Nat.le_refl _))
  have B10 := B9.trans (hb10.mono Z9)
  have Z10 := B10.size
  clear hb10
  have hx11 := pAtLeast_any _ l t _ _ Hl.out (by omega)
  rw [hof] at hx11
  go_wp2_with fail
  refine hx11.mono ?_
  rintro e w11 ⟨v11, rfl, hr11, hb11⟩
  clear hx11
  replace Hl := Lib.hid (Hl.out.step hb11 (Nat.le_refl _))
  have B11 := B10.trans (hb11.mono Z10)
  have Z11 := B11.size
  have H11 := Lib.hid hr11
  obtain ⟨A11, c11, rfl, _, _⟩ := hr11
  clear hb11
  have hx12 := pAtLeast_any _ l (t + 1) _ _ Hl.out (by omega)
  rw [hof1] at hx12
  go_wp2_with fail
  refine hx12.mono ?_
  rintro e w12 ⟨v12, rfl, hr12, hb12⟩
  clear hx12
  replace Hl := Lib.hid (Hl.out.step hb12 (Nat.le_refl _))
  replace H11 := Lib.hid (H11.out.step hb12 (Nat.le_refl _))
  have B12 := B11.trans (hb12.mono Z11)
  have Z12 := B12.size
  have H12 := Lib.hid hr12
  obtain ⟨A12, c12, rfl, _, _⟩ := hr12
  clear hb12
  have hx13 := rCov_any _ _ _ _ _ _ _ H11.out H12.out (by omega) (by omega)
  rw [hcov] at hx13
  go_wp2_with fail
  refine hx13.mono ?_
  rintro e w13 ⟨rfl, hb13⟩
  clear hx13
  replace Hl := Lib.hid (Hl.out.step hb13 (Nat.le_refl _))
  replace H11 := Lib.hid (H11.out.step hb13 (Nat.le_refl _))
  replace H12 := Lib.hid (H12.out.step hb13 (Nat.le_refl _))
  have B13 := B12.trans (hb13.mono Z12)
  have Z13 := B13.size
  clear hb13
  clear H11
  clear H12
  have hx14 := pLevels_any _ l _ _ Hl.out (by omega) (by omega)
  go_wp2_with fail
  refine hx14.mono ?_
  rintro e w14 ⟨v14, rfl, hr14, hb14⟩
  clear hx14
  replace Hl := Lib.hid (Hl.out.step hb14 (Nat.le_refl _))
  have B14 := B13.trans (hb14.mono Z13)
  have Z14 := B14.size
  have H14 := Lib.hid hr14
  obtain ⟨A14, c14, rfl, _, _⟩ := hr14
  clear hb14
  clear Hl
  have hlenL : ((levL l).length : Int) ≤ 288 := by omega
  clear hof hof1 hcov la1 la2 hg ht
  have HP := H14
  have BW := B14
  generalize levL l = LV at *
  go_wp2
  clear hlenL
  generalize w14 = W at *
  go_loopw [6] (fun i wr => ∃ j : Nat, j ≤ LV.length ∧ i = .int .i64 j ∧ Below W.heap.size W wr) (fun i _ => LV.length - (intOf i).toNat)
  case atStart => exact ⟨0, by omega, rfl, Below.refl _ _⟩
  case round =>
    obtain ⟨j, hj, rfl, hbr⟩ := hrel
    have hbz := hbr.size
    by_cases hlt : j < LV.length
    · have hx := List.getElem?_eq_getElem hlt
      generalize LV[j] = s at hx
      obtain ⟨x, y⟩ := s
      have i2 : (0 : Int) ≤ (j : Int) := by omega
      have i3 : (j : Int) < (LV.length : Int) := by omega
      have hbW := hbr
      clear hbr
      generalize wr = W2 at *
      go_wp2
      go_loopw [7] (fun i wr => ∃ k : Nat, k ≤ j ∧ i = .int .i64 k ∧ Below W2.heap.size W2 wr) (fun i _ => j - (intOf i).toNat)
      case atStart => exact ⟨0, by omega, rfl, Below.refl _ _⟩
      case round =>
        obtain ⟨k, hk, rfl, hby⟩ := hrel
        have hyz := hby.size
        by_cases hkj : k < j
        · have hx2 := List.getElem?_eq_getElem (show k < LV.length by omega)
          generalize LV[k] = s2 at hx2
          obtain ⟨x2, y2⟩ := s2
          have j2 : (0 : Int) ≤ (k : Int) := by omega
          have j3 : (k : Int) < (j : Int) := by omega
          have j4 : (k : Int) < (LV.length : Int) := by omega
          have HPr := HP.out.step (hbW.trans (hby.mono hbz)) (Nat.le_refl _)
          obtain ⟨ad, hA, _, hab, c0, c1⟩ := HPr.at hx2
          obtain ⟨ad', hA', _, _, d0, d1⟩ := HPr.at hx
          rw [hA] at hA'
          injection hA' with hA'
          subst hA'
          dsimp only at c0 c1 d0 d1
          have hn := HN.out _ (List.mem_of_getElem? hx2) _ (List.mem_of_getElem? hx)
          dsimp only at hn
          have hadl : ad.block < wr.heap.size := hab
          have hk0 := fun (p : After wr) => after_cell (by rw [add_block]; exact hadl) c0 p
          have hk1 := fun (p : After wr) => after_cell (a := ⟨(ad.add (k * 2)).block, (ad.add (k * 2)).off + 1, none⟩) (by show (ad.add (k * 2)).block < _; rw [add_block]; exact hadl) c1 p
          have hk2 := fun (p : After wr) => after_cell (by rw [add_block]; exact hadl) d0 p
          have hk3 := fun (p : After wr) => after_cell (a := ⟨(ad.add (j * 2)).block, (ad.add (j * 2)).off + 1, none⟩) (by show (ad.add (j * 2)).block < _; rw [add_block]; exact hadl) d1 p
          have HO := Lib.hid (fun w' => roverlaps_any x2 y2 x y w')
          have HC1 := Lib.hid (fun w' => rcovers_any x2 y2 x y w')
          have HC2 := Lib.hid (fun w' => rcovers_any x y x2 y2 w')
          have j5 : (j : Int) < (LV.length : Int) := i3
          subst hA
          clear hx hx2 HPr
          cases hov : ovl x2 y2 x y
          · rw [hov] at HO hn
            clear hn
            generalize cvr x2 y2 x y = q1 at *
            generalize cvr x y x2 y2 = q2 at *
            go_wp2
            (refine wp_region_after (by kernel_rfl) (by kernel_rfl) ?_; (repeat (go_big_quiet_step ((first | (go_at_call 14; with_reducible exact calls_after (HO.out _)) | (go_at_call 15; with_reducible exact calls_after (HC1.out _)) | (go_at_call 15; with_reducible exact calls_after (HC2.out _)))))); refine wpQuiet_nil ?_; intro wq hw0; obtain ⟨⟨wq0, hbq⟩, hw1⟩ := hw0; subst hw1; (try dsimp only))
            go_wp2
            go_roundw
            case rel => exact ⟨k + 1, by omega, by go_num, hby.trans (hbq.mono hyz)⟩
            case measure => simp [intOf] <;> omega
          · rw [hov] at HO hn
            have hn2 := hn rfl
            clear hn
            cases hc1 : cvr x2 y2 x y
            · rw [hc1] at HC1 hn2
              have hc2 : cvr x y x2 y2 = true := by simpa using hn2
              rw [hc2] at HC2
              clear hn2 hc1 hc2 hov
              go_wp2
              (refine wp_region_after (by kernel_rfl) (by kernel_rfl) ?_; (repeat (go_big_quiet_step ((first | (go_at_call 14; with_reducible exact calls_after (HO.out _)) | (go_at_call 15; with_reducible exact calls_after (HC1.out _)) | (go_at_call 15; with_reducible exact calls_after (HC2.out _)))))); refine wpQuiet_nil ?_; intro wq hw0; obtain ⟨⟨wq0, hbq⟩, hw1⟩ := hw0; subst hw1; (try dsimp only))
              go_wp2
              go_roundw
              case rel => exact ⟨k + 1, by omega, by go_num, hby.trans (hbq.mono hyz)⟩
              case measure => simp [intOf] <;> omega
            · rw [hc1] at HC1
              clear hn2 hov hc1
              generalize cvr x y x2 y2 = q2 at *
              go_wp2
              (refine wp_region_after (by kernel_rfl) (by kernel_rfl) ?_; (repeat (go_big_quiet_step ((first | (go_at_call 14; with_reducible exact calls_after (HO.out _)) | (go_at_call 15; with_reducible exact calls_after (HC1.out _)) | (go_at_call 15; with_reducible exact calls_after (HC2.out _)))))); refine wpQuiet_nil ?_; intro wq hw0; obtain ⟨⟨wq0, hbq⟩, hw1⟩ := hw0; subst hw1; (try dsimp only))
              go_wp2
              go_roundw
              case rel => exact ⟨k + 1, by omega, by go_num, hby.trans (hbq.mono hyz)⟩
              case measure => simp [intOf] <;> omega
        · have hkj2 : k = j := by omega
          subst hkj2
          have hd : ¬ (k : Int) < (k : Int) := by omega
          clear hx
          go_wp2
          go_roundw
          case rel => exact ⟨k + 1, by omega, by go_num, hbW.trans (hby.mono hbz)⟩
          case measure => simp [intOf] <;> omega
    · have hd : ¬ (j : Int) < (LV.length : Int) := by omega
      have hxA := awake_any wr
      go_wp2_with fail
      refine hxA.mono ?_
      rintro e w9 ⟨rfl, hb9⟩
      have BF := BW.trans ((hbr.trans (hb9.mono hbz)).mono BW.size)
      go_wp2
      go_ret
      exact ⟨rfl, BF⟩
end Go.Proofs.Ytbpjgipldddcfaa
