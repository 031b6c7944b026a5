/-
  Values: what the reference reads, for every string of at most 2097152 bytes. Conditions: lengths.
-/
import Derived.Test.YthjnkekkjjcnfaaGreatDoorVaW
import Derived.WalkKit
import Derived.WalkSpells
import Derived.WalkLawsBesides
import Derived.Deep.QuietTactic
import Derived.BigQuiet
import Derived.Handy
import Derived.Lib.Hide
namespace Go.Proofs.YthjnkekkjjcnfaaGreatDoor
open Go.RowKit

set_option maxRecDepth 100000 in
set_option maxHeartbeats 1600000 in
theorem rp_word (s : ByteArray) (w : World) (k n : Int) (hw : (s.toList = [78, 85, 76, 76] ∧ k = 0 ∧ n = 0) ∨ (s.toList = [84, 82, 85, 69] ∧ k = 3 ∧ n = 1) ∨ (s.toList = [70, 65, 76, 83, 69] ∧ k = 3 ∧ n = 0)) :
    Calls Tryz.prog 38 #[.string s] w fun e w' => e = .returned (.tuple #[.agg #[.int .i64 k, .int .i64 n, .string ⟨#[]⟩], .int .i64 0]) ∧ Below w.heap.size w w' := by
  have hN : ∀ W, Calls Tryz.prog 13 #[] W fun e w' => e = .returned (.agg #[.int .i64 0, .int .i64 0, .string ⟨#[]⟩]) ∧ Below W.heap.size W w' := fun W => rNull_any W
  have hT : ∀ W, Calls Tryz.prog 19 #[.bool true] W fun e w' => e = .returned (.agg #[.int .i64 3, .int .i64 1, .string ⟨#[]⟩]) ∧ Below W.heap.size W w' := fun W => rBool_any true W
  have hF : ∀ W, Calls Tryz.prog 19 #[.bool false] W fun e w' => e = .returned (.agg #[.int .i64 3, .int .i64 0, .string ⟨#[]⟩]) ∧ Below W.heap.size W w' := fun W => rBool_any false W
  have oB : Own (w.alloc (.cells #[.int .i64 0, .int .i64 0, .string ⟨#[]⟩] 23)) w.heap.size 23 #[.int .i64 0, .int .i64 0, .string ⟨#[]⟩] := Own.new _ _ _
  have bW := (Below.refl w.heap.size w).alloc (Nat.le_refl _) (.cells #[.int .i64 0, .int .i64 0, .string ⟨#[]⟩] 23)
  rcases hw with ⟨h1, rfl, rfl⟩ | ⟨h1, rfl, rfl⟩ | ⟨h1, rfl, rfl⟩
  · go_enter Tryz.func38, Tryz.ntmps38
    go_wp2_with fail
    generalize w.alloc (.cells #[.int .i64 0, .int .i64 0, .string ⟨#[]⟩] 23) = W at *
    refine (hN _).mono ?_
    rintro e w2 ⟨rfl, hb2⟩
    have b2 := bW.trans (hb2.mono bW.size)
    have o2 := oB.below hb2 oB.lt
    have d0 := o2.cell 0; have e0 := o2.free 0; have d1 := o2.cell 1; have e1 := o2.free 1; have d2 := o2.cell 2; have e2 := o2.free 2; (try simp only [List.getElem?_toArray, List.getElem?_cons_zero, List.getElem?_cons_succ] at d0 d1 d2)
    go_wp2
    (try simp only [Exit.inBlock, Exit.then]); refine bodyPost_ret_by (results_cell_row2 (by rfl) _ _ (w.heap.size) _ (by rfl) (load_val (((o2.store 0 _).store 1 _).store 2 _))) ?_ ?_; (focus rfl); refine ⟨rfl, ?_⟩
    (repeat' (first | (with_reducible exact Below.refl _ _) | (with_reducible assumption) | (with_reducible refine Below.alloc ?_ ?_ _) | (with_reducible refine Below.drew ?_) | (with_reducible refine Below.setCell ?_ ?_ _) | (with_reducible refine Below.trans ?_ (Below.mono (by assumption) ?_)) | go_size))
  · go_enter Tryz.func38, Tryz.ntmps38
    go_wp2_with fail
    generalize w.alloc (.cells #[.int .i64 0, .int .i64 0, .string ⟨#[]⟩] 23) = W at *
    refine (hT _).mono ?_
    rintro e w2 ⟨rfl, hb2⟩
    have b2 := bW.trans (hb2.mono bW.size)
    have o2 := oB.below hb2 oB.lt
    have d0 := o2.cell 0; have e0 := o2.free 0; have d1 := o2.cell 1; have e1 := o2.free 1; have d2 := o2.cell 2; have e2 := o2.free 2; (try simp only [List.getElem?_toArray, List.getElem?_cons_zero, List.getElem?_cons_succ] at d0 d1 d2)
    go_wp2
    (try simp only [Exit.inBlock, Exit.then]); refine bodyPost_ret_by (results_cell_row2 (by rfl) _ _ (w.heap.size) _ (by rfl) (load_val (((o2.store 0 _).store 1 _).store 2 _))) ?_ ?_; (focus rfl); refine ⟨rfl, ?_⟩
    (repeat' (first | (with_reducible exact Below.refl _ _) | (with_reducible assumption) | (with_reducible refine Below.alloc ?_ ?_ _) | (with_reducible refine Below.drew ?_) | (with_reducible refine Below.setCell ?_ ?_ _) | (with_reducible refine Below.trans ?_ (Below.mono (by assumption) ?_)) | go_size))
  · go_enter Tryz.func38, Tryz.ntmps38
    go_wp2_with fail
    generalize w.alloc (.cells #[.int .i64 0, .int .i64 0, .string ⟨#[]⟩] 23) = W at *
    refine (hF _).mono ?_
    rintro e w2 ⟨rfl, hb2⟩
    have b2 := bW.trans (hb2.mono bW.size)
    have o2 := oB.below hb2 oB.lt
    have d0 := o2.cell 0; have e0 := o2.free 0; have d1 := o2.cell 1; have e1 := o2.free 1; have d2 := o2.cell 2; have e2 := o2.free 2; (try simp only [List.getElem?_toArray, List.getElem?_cons_zero, List.getElem?_cons_succ] at d0 d1 d2)
    go_wp2
    (try simp only [Exit.inBlock, Exit.then]); refine bodyPost_ret_by (results_cell_row2 (by rfl) _ _ (w.heap.size) _ (by rfl) (load_val (((o2.store 0 _).store 1 _).store 2 _))) ?_ ?_; (focus rfl); refine ⟨rfl, ?_⟩
    (repeat' (first | (with_reducible exact Below.refl _ _) | (with_reducible assumption) | (with_reducible refine Below.alloc ?_ ?_ _) | (with_reducible refine Below.drew ?_) | (with_reducible refine Below.setCell ?_ ?_ _) | (with_reducible refine Below.trans ?_ (Below.mono (by assumption) ?_)) | go_size))
theorem head_neg {s : ByteArray} (h0 : 0 < s.size) : negH s.data.toList = ((s[0].toNat : Int) == 45) := by
  unfold negH
  rw [head_at s h0]
  by_cases h : (s[0].toNat : Int) = 45
  · have e : s[0] = 45 := by apply UInt8.toNat_inj.1; have : (45 : UInt8).toNat = 45 := rfl; omega
    rw [e]; rfl
  · have e : s[0] ≠ 45 := by intro e; rw [e] at h; exact h rfl
    rw [beq_eq_false_iff_ne.2 h]
    simp [e]
theorem ext_tail (s : ByteArray) : (s.extract 1 s.size).data.toList = s.data.toList.tail := by
  rw [← Lib.toList_data, Lib.extract_toList, List.drop_one]
  exact List.take_of_length_le (by rw [List.length_tail, ← Lib.size_eq]; omega)
theorem numP_eq {s : List UInt8} : numP s = if numOk (absL s) then (if negH s = true ∧ satV (absL s) = 0 then (0, 0, [], 1) else if 1125899906842624 < satV (absL s) then (0, 0, [], 6) else (1, (if negH s then -(satV (absL s) : Int) else (satV (absL s) : Int)), [], 0)) else (0, 0, [], 1) := by
  unfold numP numG sgnV
  cases ho : numOk (absL s)
  · simp
  · have hz := dec_zero ho
    obtain ⟨s1, s2⟩ := sat_le (A := absL s)
    have hz2 : (absL s == [48]) = decide (satV (absL s) = 0) := by
      rw [Bool.eq_iff_iff, beq_iff_eq, decide_eq_true_eq, ← hz]
      unfold satV; omega
    rw [hz2, if_pos rfl]
    cases hn : negH s
    · simp only [Bool.false_and, Bool.not_false, Bool.and_true, if_true, Bool.false_eq_true, if_false, false_and]
      by_cases hr : decV (absL s) ≤ 1125899906842624
      · rw [if_pos ⟨by omega, by omega⟩, if_neg (by omega), s2 hr]
      · rw [if_neg (by omega), if_pos (by omega)]
    · by_cases h0 : satV (absL s) = 0
      · have e : (true && !(true && decide (satV (absL s) = 0))) = false := by rw [decide_eq_true h0]; rfl
        rw [e, if_neg (by simp), if_pos ⟨rfl, h0⟩]
      · have e : (true && !(true && decide (satV (absL s) = 0))) = true := by rw [decide_eq_false h0]; rfl
        rw [e, if_pos rfl, if_neg (c := (true = true ∧ satV (absL s) = 0)) (fun h => h0 h.2)]
        simp only [if_true]
        by_cases hr : decV (absL s) ≤ 1125899906842624
        · rw [if_pos ⟨by omega, by omega⟩, if_neg (by omega), s2 hr]
        · rw [if_neg (by omega), if_pos (by omega)]
theorem rParse_num (s : ByteArray) (w : World) (hs : s.size ≤ 2097152) (x : ByteArray) (j1 : (s.toList == [78, 85, 76, 76]) = false) (j2 : (s.toList == [84, 82, 85, 69]) = false) (j3 : (s.toList == [70, 65, 76, 83, 69]) = false)
    (hU : ∀ W, Calls Tryz.prog 55 #[.string s] W fun e w' => e = .returned (.tuple #[.string x, .bool false]) ∧ w' = W) :
    Calls Tryz.prog 38 #[.string s] w fun e w' => e = .returned (resV (numP s.data.toList)) ∧ Below w.heap.size w w' := by
  rw [numP_eq]
  by_cases h0 : 0 < s.size
  · have hne0 : s.data.toList ≠ [] := fun e => by have := size_of_empty e; omega
    have hne : (s.toList == []) = false := by rw [Lib.toList_data, beq_eq_false_iff_ne]; exact hne0
    have hem : s.toList.isEmpty = false := by rw [Lib.toList_data, Bool.eq_false_iff]; intro e; exact hne0 (List.isEmpty_iff.1 e)
    have hh := head_neg h0
    by_cases hc : (s[0].toNat : Int) = 45
    · have hn : negH s.data.toList = true := by rw [hh, beq_iff_eq]; exact hc
      have ha : absL s.data.toList = (s.extract 1 s.size).data.toList := by rw [ext_tail]; unfold absL; rw [if_pos hn]
      have hN := fun W => rNumb_any (s.extract 1 s.size) W (by rw [ByteArray.size_extract]; omega)
      rw [hn, ha]
      generalize (s.extract 1 s.size).data.toList = A at *
      cases ho : numOk A
      · rw [nRes_no ho] at hN
        rw [if_neg (by simp)]
        exact rp_N_bad s w x 0 j1 j2 j3 hU h0 hne hem hc (by omega) hN
      · rw [nRes_yes ho] at hN
        rw [if_pos rfl]
        by_cases hz : satV A = 0
        · rw [if_pos ⟨rfl, hz⟩]
          rw [hz] at hN
          exact rp_N_zero s w x j1 j2 j3 hU h0 hne hem hc (by omega) hN
        · rw [if_neg (fun h => hz h.2)]
          have hz0 : ((satV A : Int) == 0) = false := by rw [beq_eq_false_iff_ne]; omega
          by_cases hr : 1125899906842624 < satV A
          · rw [if_pos hr]
            exact rp_N_range s w x _ j1 j2 j3 hU h0 hne hem hc (by omega) hN (by omega) hz0
          · rw [if_neg hr, if_pos rfl]
            refine rp_N_ok s w x (satV A : Int) j1 j2 j3 hU h0 hne hem hc (by omega) hN (by omega) (by omega) hz0 (fun W => ?_)
            have := rInt_any (-(satV A : Int)) W
            rw [vld_int (by omega)] at this
            exact this
    · have hn : negH s.data.toList = false := by rw [hh, beq_eq_false_iff_ne]; exact hc
      have ha : absL s.data.toList = s.data.toList := by unfold absL; rw [hn]; rfl
      have hN := fun W => rNumb_any s W (by omega)
      have hc2 : ((s[0].toNat : Int) == 45) = false := by simpa using hc
      rw [hn, ha]
      generalize s.data.toList = A at *
      cases ho : numOk A
      · rw [nRes_no ho] at hN
        rw [if_neg (by simp)]
        exact rp_P_bad s w x 0 j1 j2 j3 hU h0 hne hem hc2 hN
      · rw [nRes_yes ho] at hN
        rw [if_pos rfl, if_neg (fun h => by cases h.1)]
        by_cases hr : 1125899906842624 < satV A
        · rw [if_pos hr]
          exact rp_P_range s w x _ j1 j2 j3 hU h0 hne hem hc2 hN (by omega)
        · rw [if_neg hr, if_neg (by simp)]
          refine rp_P_ok s w x (satV A : Int) j1 j2 j3 hU h0 hne hem hc2 hN (by omega) (by omega) (fun W => ?_)
          have := rInt_any (satV A : Int) W
          rw [vld_int (by omega)] at this
          exact this
  · have hE := empty_of_size h0
    have hN := fun W => rNumb_any s W (by omega)
    rw [hE] at hN ⊢
    exact rp_E_bad s w x 0 j1 j2 j3 hU (by rw [Lib.toList_data]; exact hE) hN
theorem rParse_any (s : ByteArray) (w : World) (hs : s.size ≤ 2097152) :
    Calls Tryz.prog 38 #[.string s] w fun e w' => e = .returned (resV (parP s.data.toList)) ∧ Below w.heap.size w w' := by
  unfold parP
  by_cases c1 : s.data.toList = sNull
  · rw [if_pos c1]; exact rp_word s w 0 0 (.inl ⟨by rw [Lib.toList_data]; exact c1, rfl, rfl⟩)
  rw [if_neg c1]
  by_cases c2 : s.data.toList = sTrue
  · rw [if_pos c2]; exact rp_word s w 3 1 (.inr (.inl ⟨by rw [Lib.toList_data]; exact c2, rfl, rfl⟩))
  rw [if_neg c2]
  by_cases c3 : s.data.toList = sFalse
  · rw [if_pos c3]; exact rp_word s w 3 0 (.inr (.inr ⟨by rw [Lib.toList_data]; exact c3, rfl, rfl⟩))
  rw [if_neg c3]
  have j1 : (s.toList == [78, 85, 76, 76]) = false := by rw [Lib.toList_data, beq_eq_false_iff_ne]; exact c1
  have j2 : (s.toList == [84, 82, 85, 69]) = false := by rw [Lib.toList_data, beq_eq_false_iff_ne]; exact c2
  have j3 : (s.toList == [70, 65, 76, 83, 69]) = false := by rw [Lib.toList_data, beq_eq_false_iff_ne]; exact c3
  have hX : numP s.data.toList = (if Lib.hasPrefix s.data.toList [39] then (0, 0, [], 1) else numP s.data.toList) := by
    cases hp : Lib.hasPrefix s.data.toList [39]
    · rfl
    · rw [if_pos rfl]
      have hg : numG s.data.toList = false := by
        cases h : numG s.data.toList
        · rfl
        · rw [numG_head h] at hp; cases hp
      unfold numP; rw [hg]; rfl
  by_cases hq : quo (innT s.data.toList) = s.data.toList
  · have hp : Lib.hasPrefix s.data.toList [39] = true := by rw [← hq]; exact quo_head _
    rw [if_pos hp]
    unfold texP
    have hU : ∀ W, Calls Tryz.prog 55 #[.string s] W fun e w' => e = .returned (.tuple #[.string ⟨(innT s.data.toList).toArray⟩, .bool (prnL (innT s.data.toList))]) ∧ w' = W := fun W => by
      obtain ⟨u, hu, h1, _⟩ := unquote_any s W hs
      rw [h1 hq] at hu
      exact hu
    cases hr : prnL (innT s.data.toList)
    · rw [if_neg (fun h => by cases h.2)]
      rw [hr] at hU
      rw [hp, if_pos rfl] at hX
      rw [← hX]
      exact rParse_num s w hs _ j1 j2 j3 hU
    · rw [if_pos ⟨hq, rfl⟩]
      rw [hr] at hU
      by_cases hl : 200 < (innT s.data.toList).length
      · rw [if_pos hl]
        exact rp_long s w _ j1 j2 j3 hU (by rw [size_toArray]; omega)
      · rw [if_neg hl]
        refine rp_text s w ⟨(innT s.data.toList).toArray⟩ j1 j2 j3 hU (by rw [size_toArray]; omega) (fun W => ?_)
        have := rText_any ⟨(innT s.data.toList).toArray⟩ W
        rw [nrm_text hl hr] at this
        exact this
  · have hU : ∀ W, Calls Tryz.prog 55 #[.string s] W fun e w' => e = .returned (.tuple #[.string ⟨#[]⟩, .bool false]) ∧ w' = W := fun W => by
      obtain ⟨u, hu, _, h1⟩ := unquote_any s W hs
      rw [h1 hq] at hu
      exact hu
    have ht : texP s.data.toList = (0, 0, [], 1) := by unfold texP; rw [if_neg (fun h => hq h.1)]
    rw [ht, ← hX]
    exact rParse_num s w hs _ j1 j2 j3 hU
end Go.Proofs.YthjnkekkjjcnfaaGreatDoor
