/-
  The walk of the statement StepsPieces. Conditions: the lists are read anywhere below the heap's end.
-/
import Derived.Test.YtbdioabeopnfeaaStMa
import Derived.WalkKit
import Derived.WalkSpells
import Derived.WalkLawsBesides
import Derived.Deep.QuietTactic
import Derived.BigQuiet
import Derived.Handy
import Derived.Lib.Hide
namespace Go.Proofs.Ytbdioabeopnfeaa
open Go.RowKit

theorem ofR_rev (l : List Pc) : ofR l.reverse = ofR l := ofR_perm (List.reverse_perm l)
theorem rev_step {l : List Pc} {i : Nat} {c : Pc} (h : l[i]? = some c) : (l.drop (i + 1)).reverse ++ [c] = (l.drop i).reverse := by
  obtain ⟨hi, rfl⟩ := List.getElem?_eq_some_iff.1 h
  rw [List.drop_eq_getElem_cons hi, List.reverse_cons]
set_option maxRecDepth 100000 in
set_option maxHeartbeats 12800000 in
theorem law_pieces (va vb : Value) (a b : List Pc) (w : World) (La Lb : Nat) (hva : RdB w La w.heap.size va a) (hvb : RdB w Lb w.heap.size vb b) :
    Calls Try.prog 8 #[va, vb] w fun e w' => e = .returned (.bool true) ∧ Below w.heap.size w w' := by
  have Ha := Lib.hid hva
  obtain ⟨Aa, ca, rfl, _, _⟩ := hva
  have Hb := Lib.hid hvb
  obtain ⟨Ab, cb, rfl, _, _⟩ := hvb
  by_cases hbiga : (a.length : Int) > 24
  · have hbd : decide ((a.length : Int) > 24) = true := by simp; omega
    go_enter Try.func8, Try.ntmps8
    go_wp2_with fail
    refine (awake_any w).mono ?_
    rintro e w1 ⟨rfl, hb1⟩
    go_wp2
    go_ret
    exact ⟨rfl, hb1⟩
  have hbda : decide ((a.length : Int) > 24) = false := by simp; omega
  by_cases hbigb : (b.length : Int) > 24
  · have hbd : decide ((b.length : Int) > 24) = true := by simp; omega
    go_enter Try.func8, Try.ntmps8
    go_wp2_with fail
    refine (awake_any w).mono ?_
    rintro e w1 ⟨rfl, hb1⟩
    go_wp2
    go_ret
    exact ⟨rfl, hb1⟩
  have hbdb : decide ((b.length : Int) > 24) = false := by simp; omega
  have la : a.length ≤ 24 := by omega
  have lb : b.length ≤ 24 := by omega
  go_enter Try.func8, Try.ntmps8
  go_wp2_with (first
    | (at_builtin; refine append_rdC _ rfl _ _ rfl w.heap.size _ [] rfl (own_nilC _ _) _ _ _ a _ _ rfl Ha.out ?_ ?_ ?_; (focus (simp; omega)); (focus exact Nat.le_refl _); intro v1 w1 hown1 hb1; (try dsimp only [List.nil_append] at hown1); have O1 := Lib.hid hown1; have z1 := hb1.size; have Hb1 := Lib.hid (Hb.out.step hb1 (Nat.le_refl _)); clear hown1)
    | (at_builtin; refine append_rdC _ rfl _ _ rfl w.heap.size _ a rfl O1.out _ _ _ b _ _ rfl Hb1.out ?_ ?_ ?_; (focus omega); (focus exact z1); intro v2 w2 hown2 hb2; have O2 := Lib.hid hown2; have z2 := hb2.size; have RA := Lib.hid (RdB.of_ownC hown2 (by simp; omega)); obtain ⟨A2, n2, c2, rfl⟩ := own_slice hown2; clear hown2))
  have hAl : (a ++ b).length = a.length + b.length := List.length_append
  have hn2 := RA.out.len.1
  subst hn2
  have B2 : Below w.heap.size w w2 := hb1.trans hb2
  have z20 := B2.size
  have HA2 := Lib.hid (Ha.out.below B2 |>.more z20 (Nat.le_refl _))
  have HB2 := Lib.hid (Hb.out.below B2 |>.more z20 (Nat.le_refl _))
  have hA48 : (a ++ b).length ≤ 48 := by omega
  have HAdd := Lib.hid (ofR_add a b)
  have HRev := Lib.hid (ofR_rev (a ++ b))
  have HVal := Lib.hid (of_valid (a ++ b))
  clear hbda hbdb hbiga hbigb O1 O2 Hb1 hAl
  generalize a ++ b = AB at *
  have hw1 : wrap64 ((AB.length : Int) - 1) = (AB.length : Int) - 1 := by unfold wrap64; omega
  go_wp2
  (try rw [hw1])
  clear hw1
  go_loopw [6, 7] (fun o i wr => ∃ m : Nat, m ≤ AB.length ∧ i = .int .i64 ((m : Int) - 1) ∧ wr.ownsRow w2.heap.size 42 3 o ((AB.drop m).reverse).length (flatB ((AB.drop m).reverse)) ∧ Below w2.heap.size w2 wr) (fun _ i _ => (intOf i + 1).toNat)
  case atStart => exact ⟨AB.length, Nat.le_refl _, by first | rfl | exact congrArg (Value.int .i64) hw1, by rw [List.drop_length]; exact own_nilC _ _, Below.refl _ _⟩
  case round =>
    obtain ⟨m, hm, rfl, hown, hbr⟩ := hrel
    have hbz := hbr.size
    have OT := Lib.hid hown
    clear hown
    by_cases hm0 : 0 < m
    · obtain ⟨j, rfl⟩ : ∃ j, m = j + 1 := ⟨m - 1, by omega⟩
      have hx := List.getElem?_eq_getElem (show j < AB.length by omega)
      generalize AB[j] = s at hx
      obtain ⟨x, y, z⟩ := s
      obtain ⟨ad, rfl, _, hab, c0, c1, c2⟩ := (RA.out.below hbr).atw hx
      have hS := Lib.hid (rev_step hx)
      have hll : ((AB.drop (j + 1)).reverse).length ≤ 1000 := by rw [List.length_reverse, List.length_drop]; omega
      have i2 : (0 : Int) ≤ (j : Int) := by omega
      have i3 : (j : Int) < (AB.length : Int) := by omega
      have i4 : ((j : Int) ≥ 0) := i2
      clear hx
      rw [show (((j + 1 : Nat) : Int) - 1) = (j : Int) by omega]
      generalize (AB.drop (j + 1)).reverse = TL at *
      go_wp2_with (at_builtin; refine append_pc _ rfl _ _ rfl w2.heap.size _ TL rfl (World.ownsRow.alloc OT.out _) ⟨wr.heap.size, 0, none⟩ (x, y, z) rfl (World.news_of_block (heap_alloc_new _ _)) ?_ ?_ _ rfl ?_; (focus omega); (focus go_size); intro g3 c3 w3 hown3 hb3 hg3 hlie3 hlt3)
      go_roundw
      case rel => exact ⟨j, by omega, by go_num, by rw [← hS.out]; exact hown3, hbr.trans (((Below.refl _ _).alloc hbz _).trans hb3)⟩
      case measure => simp [intOf] <;> omega
    · obtain rfl : m = 0 := by omega
      have i4 : ¬ (((0 : Nat) : Int) - 1 ≥ 0) := by omega
      have hTl : ((AB.drop 0).reverse).length ≤ 1000 := by rw [List.length_reverse, List.length_drop]; omega
      have RT := Lib.hid (RdB.of_ownC OT.out (by omega))
      obtain ⟨A3, n3, c3, hu⟩ := own_slice OT.out
      rw [hu] at RT
      have HA3 := Lib.hid (HA2.out.step hbr (Nat.le_refl _))
      have HB3 := Lib.hid (HB2.out.step hbr (Nat.le_refl _))
      have RA3 := Lib.hid (RA.out.step hbr (Nat.le_refl _))
      have BW := B2.trans (hbr.mono z20)
      clear HA2 HB2 RA OT Ha Hb
      subst hu
      generalize wr = W at *
      rw [List.drop_zero] at RT
      go_wp2_with fail
      have hx1 := pStOf_any _ AB _ _ RA3.out (by omega)
      refine hx1.mono ?_
      rintro e w1 ⟨v1, rfl, hr1, hb1⟩
      clear hx1
      replace HA3 := Lib.hid (HA3.out.step hb1 (Nat.le_refl _))
      replace HB3 := Lib.hid (HB3.out.step hb1 (Nat.le_refl _))
      replace RA3 := Lib.hid (RA3.out.step hb1 (Nat.le_refl _))
      replace RT := Lib.hid (RT.out.step hb1 (Nat.le_refl _))
      have B1 := BW.trans (hb1.mono BW.size)
      have Z1 := B1.size
      have H1 := Lib.hid hr1
      obtain ⟨A1, c1, rfl, _, _⟩ := hr1
      clear hb1
      have hx2 := rStValid_any _ _ _ _ H1.out
      rw [HVal.out] at hx2
      go_wp2_with fail
      refine hx2.mono ?_
      rintro e w2 ⟨rfl, hb2⟩
      clear hx2
      replace HA3 := Lib.hid (HA3.out.step hb2 (Nat.le_refl _))
      replace HB3 := Lib.hid (HB3.out.step hb2 (Nat.le_refl _))
      replace RA3 := Lib.hid (RA3.out.step hb2 (Nat.le_refl _))
      replace RT := Lib.hid (RT.out.step hb2 (Nat.le_refl _))
      replace H1 := Lib.hid (H1.out.step hb2 (Nat.le_refl _))
      have B2 := B1.trans (hb2.mono Z1)
      have Z2 := B2.size
      clear hb2
      have hx3 := pStOf_any _ AB.reverse _ _ RT.out (by rw [List.length_reverse]; omega)
      rw [HRev.out] at hx3
      go_wp2_with fail
      refine hx3.mono ?_
      rintro e w3 ⟨v3, rfl, hr3, hb3⟩
      clear hx3
      replace HA3 := Lib.hid (HA3.out.step hb3 (Nat.le_refl _))
      replace HB3 := Lib.hid (HB3.out.step hb3 (Nat.le_refl _))
      replace RA3 := Lib.hid (RA3.out.step hb3 (Nat.le_refl _))
      replace RT := Lib.hid (RT.out.step hb3 (Nat.le_refl _))
      replace H1 := Lib.hid (H1.out.step hb3 (Nat.le_refl _))
      have B3 := B2.trans (hb3.mono Z2)
      have Z3 := B3.size
      have H3 := Lib.hid hr3
      obtain ⟨A3, c3, rfl, _, _⟩ := hr3
      clear hb3
      have hx4 := sameT_any _ _ _ _ _ _ _ H1.out H3.out
      rw [decide_eq_true rfl] at hx4
      go_wp2_with fail
      refine hx4.mono ?_
      rintro e w4 ⟨rfl, hb4⟩
      clear hx4
      replace HA3 := Lib.hid (HA3.out.step hb4 (Nat.le_refl _))
      replace HB3 := Lib.hid (HB3.out.step hb4 (Nat.le_refl _))
      replace RA3 := Lib.hid (RA3.out.step hb4 (Nat.le_refl _))
      replace RT := Lib.hid (RT.out.step hb4 (Nat.le_refl _))
      replace H1 := Lib.hid (H1.out.step hb4 (Nat.le_refl _))
      replace H3 := Lib.hid (H3.out.step hb4 (Nat.le_refl _))
      have B4 := B3.trans (hb4.mono Z3)
      have Z4 := B4.size
      clear hb4
      have hx5 := pStOf_any _ a _ _ HA3.out (by omega)
      go_wp2_with fail
      refine hx5.mono ?_
      rintro e w5 ⟨v5, rfl, hr5, hb5⟩
      clear hx5
      replace HA3 := Lib.hid (HA3.out.step hb5 (Nat.le_refl _))
      replace HB3 := Lib.hid (HB3.out.step hb5 (Nat.le_refl _))
      replace RA3 := Lib.hid (RA3.out.step hb5 (Nat.le_refl _))
      replace RT := Lib.hid (RT.out.step hb5 (Nat.le_refl _))
      replace H1 := Lib.hid (H1.out.step hb5 (Nat.le_refl _))
      replace H3 := Lib.hid (H3.out.step hb5 (Nat.le_refl _))
      have B5 := B4.trans (hb5.mono Z4)
      have Z5 := B5.size
      have H5 := Lib.hid hr5
      obtain ⟨A5, c5, rfl, _, _⟩ := hr5
      clear hb5
      have hx6 := pStOf_any _ b _ _ HB3.out (by omega)
      go_wp2_with fail
      refine hx6.mono ?_
      rintro e w6 ⟨v6, rfl, hr6, hb6⟩
      clear hx6
      replace HA3 := Lib.hid (HA3.out.step hb6 (Nat.le_refl _))
      replace HB3 := Lib.hid (HB3.out.step hb6 (Nat.le_refl _))
      replace RA3 := Lib.hid (RA3.out.step hb6 (Nat.le_refl _))
      replace RT := Lib.hid (RT.out.step hb6 (Nat.le_refl _))
      replace H1 := Lib.hid (H1.out.step hb6 (Nat.le_refl _))
      replace H3 := Lib.hid (H3.out.step hb6 (Nat.le_refl _))
      replace H5 := Lib.hid (H5.out.step hb6 (Nat.le_refl _))
      have B6 := B5.trans (hb6.mono Z5)
      have Z6 := B6.size
      have H6 := Lib.hid hr6
      obtain ⟨A6, c6, rfl, _, _⟩ := hr6
      clear hb6
      have hx7 := pAdd_any _ _ (ofR a) (ofR b) _ _ _ H5.out H6.out (of_valid a) (of_valid b) (by have := ofR_len a; omega) (by have := ofR_len b; omega)
      rw [← HAdd.out] at hx7
      go_wp2_with fail
      refine hx7.mono ?_
      rintro e w7 ⟨v7, rfl, hr7, hb7⟩
      clear hx7
      replace HA3 := Lib.hid (HA3.out.step hb7 (Nat.le_refl _))
      replace HB3 := Lib.hid (HB3.out.step hb7 (Nat.le_refl _))
      replace RA3 := Lib.hid (RA3.out.step hb7 (Nat.le_refl _))
      replace RT := Lib.hid (RT.out.step hb7 (Nat.le_refl _))
      replace H1 := Lib.hid (H1.out.step hb7 (Nat.le_refl _))
      replace H3 := Lib.hid (H3.out.step hb7 (Nat.le_refl _))
      replace H5 := Lib.hid (H5.out.step hb7 (Nat.le_refl _))
      replace H6 := Lib.hid (H6.out.step hb7 (Nat.le_refl _))
      have B7 := B6.trans (hb7.mono Z6)
      have Z7 := B7.size
      have H7 := Lib.hid hr7
      obtain ⟨A7, c7, rfl, _, _⟩ := hr7
      clear hb7
      have hx8 := sameT_any _ _ _ _ _ _ _ H1.out H7.out
      rw [decide_eq_true rfl] at hx8
      go_wp2_with fail
      refine hx8.mono ?_
      rintro e w8 ⟨rfl, hb8⟩
      clear hx8
      replace HA3 := Lib.hid (HA3.out.step hb8 (Nat.le_refl _))
      replace HB3 := Lib.hid (HB3.out.step hb8 (Nat.le_refl _))
      replace RA3 := Lib.hid (RA3.out.step hb8 (Nat.le_refl _))
      replace RT := Lib.hid (RT.out.step hb8 (Nat.le_refl _))
      replace H1 := Lib.hid (H1.out.step hb8 (Nat.le_refl _))
      replace H3 := Lib.hid (H3.out.step hb8 (Nat.le_refl _))
      replace H5 := Lib.hid (H5.out.step hb8 (Nat.le_refl _))
      replace H6 := Lib.hid (H6.out.step hb8 (Nat.le_refl _))
      replace H7 := Lib.hid (H7.out.step hb8 (Nat.le_refl _))
      have B8 := B7.trans (hb8.mono Z7)
      have Z8 := B8.size
      clear hb8
      have hx9 := awake_any w8
      go_wp2_with fail
      refine hx9.mono ?_
      rintro e w9 ⟨rfl, hb9⟩
      clear hx9
      replace HA3 := Lib.hid (HA3.out.step hb9 (Nat.le_refl _))
      replace HB3 := Lib.hid (HB3.out.step hb9 (Nat.le_refl _))
      replace RA3 := Lib.hid (RA3.out.step hb9 (Nat.le_refl _))
      replace RT := Lib.hid (RT.out.step hb9 (Nat.le_refl _))
      replace H1 := Lib.hid (H1.out.step hb9 (Nat.le_refl _))
      replace H3 := Lib.hid (H3.out.step hb9 (Nat.le_refl _))
      replace H5 := Lib.hid (H5.out.step hb9 (Nat.le_refl _))
      replace H6 := Lib.hid (H6.out.step hb9 (Nat.le_refl _))
      replace H7 := Lib.hid (H7.out.step hb9 (Nat.le_refl _))
      have B9 := B8.trans (hb9.mono Z8)
      have Z9 := B9.size
      clear hb9
      go_wp2
      go_ret
      exact ⟨rfl, B9⟩
end Go.Proofs.Ytbdioabeopnfeaa
