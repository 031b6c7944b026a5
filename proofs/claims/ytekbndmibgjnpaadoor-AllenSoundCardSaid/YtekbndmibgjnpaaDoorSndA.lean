/-
  The walk of the statement AllenSound: periods that satisfy constraints satisfy the tightened ones. Conditions: the table of keywords reads as the program lays it (Env); the two lists are read anywhere below the heap's end.
-/
import Derived.Test.YtekbndmibgjnpaaDoorRsat
import Derived.Test.YtekbndmibgjnpaaDoorAwkA
import Derived.WalkKit
import Derived.WalkSpells
import Derived.WalkLawsBesides
import Derived.Deep.QuietTactic
import Derived.BigQuiet
import Derived.Handy
import Derived.Lib.Hide
namespace Go.Proofs.YtekbndmibgjnpaaDoor
open Go.RowKit

theorem conL_mem {n : Nat} {M : Net} {e : Con} (h : e ∈ conL n M) : ∃ i j, i < n ∧ j < n ∧ e = ⟨(i : Int), (j : Int), mb (M i j) 13⟩ := by
  unfold conL conAll at h
  rw [List.mem_flatMap] at h
  obtain ⟨i, hi, h⟩ := h
  unfold conRow at h
  rw [List.mem_map] at h
  obtain ⟨x, hx, rfl⟩ := h
  have h1 := List.mem_range.1 hi
  have h2 := List.mem_range.1 hx
  exact ⟨i, i + 1 + x, h1, by omega, rfl⟩
theorem sound_sat {l : List (Int × Int)} {M : Net} (hv : vldL l = true) (hS : Sub l.length (solN l) M) : satB l (conL l.length M) = true := by
  have h1 : okL l.length (conL l.length M) = true := by
    unfold okL
    rw [List.all_eq_true]
    intro e he
    obtain ⟨i, j, hi, hj, rfl⟩ := conL_mem he
    unfold okC
    simp only [Bool.and_eq_true, decide_eq_true_eq]
    refine ⟨⟨⟨⟨by omega, by omega⟩, by omega⟩, by omega⟩, List.all_eq_true.2 fun r hr => ?_⟩
    obtain ⟨a, b, _⟩ := (mb_mem _ r).1 hr
    exact (isRel_iff r).2 ⟨a, b⟩
  have h2 : (conL l.length M).all (metC l) = true := by
    rw [List.all_eq_true]
    intro e he
    obtain ⟨i, j, hi, hj, rfl⟩ := conL_mem he
    have hb := hS i j hi hj _ ((solN_bit l i j _).2 rfl)
    have lt := relR_lt (at0 l i).1 (at0 l i).2 (at0 l j).1 (at0 l j).2
    unfold metC relAt
    simp only [Int.toNat_natCast]
    exact decide_eq_true ((mb_mem _ _).2 ⟨lt.1, lt.2, hb⟩)
  unfold satB
  rw [h1, hv, h2]
  rfl
set_option maxRecDepth 100000 in
set_option maxHeartbeats 1600000 in
theorem law_sound (u v : Value) (l : List (Int × Int)) (c : List Con) (w : World) (L L' : Nat) (hu : RdP w L w.heap.size u l) (hv : RdC w L' w.heap.size v c) (henv : Env w) :
    Calls Tryd.prog 9 #[u, v] w fun e w' => e = .returned (.bool true) ∧ Below w.heap.size w w' := by
  have hu0 := hu
  have hv0 := hv
  obtain ⟨A, cc, rfl, hl, _⟩ := hu
  obtain ⟨A2, cc2, rfl, hl2, _⟩ := hv
  by_cases h5 : (l.length : Int) > 5
  · go_enter Tryd.func9, Tryd.ntmps9
    go_wp2_with fail
    refine (awake_any _ henv).mono ?_
    rintro e w1 ⟨rfl, hb1⟩
    go_wp2_with fail
    go_ret
    exact ⟨rfl, hb1⟩
  · have HL := large_any _ c w L' hv0
    cases hbig : bigL c
    · rw [hbig] at HL
      go_enter Tryd.func9, Tryd.ntmps9
      go_wp2_with fail
      refine HL.mono ?_
      rintro e w1 ⟨rfl, hb1⟩
      go_wp2_with fail
      refine (sat_any _ _ l c _ L L' ((hu0.below hb1).more hb1.size (Nat.le_refl _)) ((hv0.below hb1).more hb1.size (Nat.le_refl _))).mono ?_
      rintro e w2 ⟨rfl, hb2⟩
      have B2 := hb1.trans (hb2.mono hb1.size)
      go_wp2_with fail
      refine (rsat_any _ _ l c _ L L' ((hu0.below B2).more B2.size (Nat.le_refl _)) ((hv0.below B2).more B2.size (Nat.le_refl _))).mono ?_
      rintro e w3 ⟨rfl, hb3⟩
      have B3 := B2.trans (hb3.mono B2.size)
      have hss : (satB l c != satB l c) = false := by simp
      cases hs : satB l c
      · rw [hs] at hss
        go_wp2_with fail
        refine (awake_any _ (henv.step B3)).mono ?_
        rintro e w4 ⟨rfl, hb4⟩
        go_wp2_with fail
        go_ret
        exact ⟨rfl, B3.trans (hb4.mono B3.size)⟩
      · rw [hs] at hss
        by_cases h0 : l.length = 0
        · have hz0 : ((l.length : Int) == 0) = true := by simp [h0]
          go_wp2_with fail
          refine (awake_any _ (henv.step B3)).mono ?_
          rintro e w4 ⟨rfl, hb4⟩
          go_wp2_with fail
          go_ret
          exact ⟨rfl, B3.trans (hb4.mono B3.size)⟩
        · have hz0 : ((l.length : Int) == 0) = false := by rw [beq_eq_false_iff_ne]; omega
          have HT := tight_any (l.length : Int) _ c w3 L' ((hv0.below B3).more B3.size (Nat.le_refl _))
          go_wp2_with fail
          refine HT.mono ?_
          rintro e w4 ⟨v', b, l', rfl, hr, hb4, ht⟩
          obtain ⟨rfl, M, rfl, hS, _, _⟩ := tres_sat hs (by omega) (by omega) ht
          have B4 := B3.trans (hb4.mono B3.size)
          have HQ := sat_any _ _ l (conL l.length M) w4 L w3.heap.size ((hu0.below B4).more B4.size (Nat.le_refl _)) hr
          rw [sound_sat (satB_vld hs).1 hS] at HQ
          have hr' := hr
          obtain ⟨A5, c5, rfl, _, _⟩ := hr
          go_wp2_with fail
          refine HQ.mono ?_
          rintro e w5 ⟨rfl, hb5⟩
          have B5 := B4.trans (hb5.mono B4.size)
          go_wp2_with fail
          refine (awake_any _ (henv.step B5)).mono ?_
          rintro e w6 ⟨rfl, hb6⟩
          go_wp2_with fail
          go_ret
          exact ⟨rfl, B5.trans (hb6.mono B5.size)⟩
    · rw [hbig] at HL
      go_enter Tryd.func9, Tryd.ntmps9
      go_wp2_with fail
      refine HL.mono ?_
      rintro e w1 ⟨rfl, hb1⟩
      go_wp2_with fail
      refine (awake_any _ (henv.step hb1)).mono ?_
      rintro e w2 ⟨rfl, hb2⟩
      go_wp2_with fail
      go_ret
      exact ⟨rfl, hb1.trans (hb2.mono hb1.size)⟩
end Go.Proofs.YtekbndmibgjnpaaDoor
