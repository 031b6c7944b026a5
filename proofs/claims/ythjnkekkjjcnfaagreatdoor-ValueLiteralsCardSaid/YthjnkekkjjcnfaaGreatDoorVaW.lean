/-
  Values: what the reference reads. Conditions: lengths.
-/
import Derived.Test.YthjnkekkjjcnfaaGreatDoorVaV
import Derived.WalkKit
import Derived.WalkSpells
import Derived.WalkLawsBesides
import Derived.Deep.QuietTactic
import Derived.BigQuiet
import Derived.Handy
import Derived.Lib.Hide
namespace Go.Proofs.YthjnkekkjjcnfaaGreatDoor
open Go.RowKit

/-! ### what is taken out of quotes -/
theorem in_quotes (s : ByteArray) (h2 : 2 ≤ s.size) (h3 : (s[0].toNat : Int) = 39) (h4 : (s[s.size - 1].toNat : Int) = 39) : s.data.toList = 39 :: (s.extract 1 (s.size - 1)).data.toList ++ [39] := by
  rw [← Lib.toList_data (s.extract 1 (s.size - 1)), Lib.extract_toList]
  have e0 : s.data.toList = s[0] :: s.data.toList.drop 1 := by
    have := List.drop_eq_getElem_cons (l := s.data.toList) (i := 0) (by rw [← Lib.size_eq]; omega)
    rw [List.drop_zero] at this
    exact this
  have e1 : s.data.toList.drop (s.size - 1) = [s[s.size - 1]] := by
    rw [List.drop_eq_getElem_cons (by rw [← Lib.size_eq]; omega), List.drop_eq_nil_of_le (by rw [← Lib.size_eq]; omega)]
    rfl
  have e2 : (s.data.toList.drop 1).take (s.size - 1 - 1) ++ (s.data.toList.drop 1).drop (s.size - 1 - 1) = s.data.toList.drop 1 := List.take_append_drop _ _
  rw [List.drop_drop, show 1 + (s.size - 1 - 1) = s.size - 1 by omega, e1, byte39.1 h4] at e2
  rw [List.cons_append, e2, ← byte39.1 h3]
  exact e0
theorem quo_size {s : ByteArray} {t : List UInt8} (h : quo t = s.data.toList) : 2 ≤ s.size ∧ (∃ h : 0 < s.size, (s[0].toNat : Int) = 39) ∧ (∃ h : s.size - 1 < s.size, (s[s.size - 1].toNat : Int) = 39) := by
  have hl : 2 ≤ s.size := by
    rw [Lib.size_eq, ← h]; unfold quo; simp
  refine ⟨hl, ⟨by omega, ?_⟩, ⟨by omega, ?_⟩⟩
  · have e := head_at s (by omega)
    rw [← h] at e
    have : (some (39 : UInt8)) = some s[0] := e
    injection this with this
    exact byte39.2 this.symm
  · have e : s.data.toList.getLast? = some s[s.size - 1] := by
      rw [List.getLast?_eq_getElem?, ← Lib.size_eq, List.getElem?_eq_getElem (by rw [← Lib.size_eq]; omega)]
      rfl
    rw [← h] at e
    unfold quo at e
    rw [List.getLast?_append] at e
    simp at e
    exact byte39.2 e.symm
theorem unquote_any (s : ByteArray) (w : World) (hs : s.size ≤ 2097152) :
    ∃ u, Calls Tryz.prog 55 #[.string s] w (fun e w' => e = .returned u ∧ w' = w) ∧ (quo (innT s.data.toList) = s.data.toList → u = .tuple #[.string ⟨(innT s.data.toList).toArray⟩, .bool (prnL (innT s.data.toList))]) ∧ (quo (innT s.data.toList) ≠ s.data.toList → u = .tuple #[.string ⟨#[]⟩, .bool false]) := by
  by_cases hq : 2 ≤ s.size ∧ (∃ h : 0 < s.size, (s[0].toNat : Int) = 39) ∧ (∃ h : s.size - 1 < s.size, (s[s.size - 1].toNat : Int) = 39)
  · obtain ⟨h2, ⟨h0, h3⟩, ⟨h5, h4⟩⟩ := hq
    have hin := in_quotes s h2 h3 h4
    have hsz : (s.extract 1 (s.size - 1)).size ≤ 2097152 := by rw [ByteArray.size_extract]; omega
    refine ⟨_, unquote_yes s w hs h2 h3 h4 _ rfl hsz, fun h => ?_, fun h => ?_⟩
    · have e : (s.extract 1 (s.size - 1)).data.toList = dbl (innT s.data.toList) := by
        have h6 := h.trans hin
        generalize innT s.data.toList = t at h6 ⊢
        generalize (s.extract 1 (s.size - 1)).data.toList = J at h6 ⊢
        unfold quo at h6
        have h7 := List.append_cancel_right h6
        injection h7 with _ h8
        exact h8.symm
      rw [e, unq_dbl]
      rfl
    · cases hu : unq (s.extract 1 (s.size - 1)).data.toList with
      | none => rfl
      | some u =>
        exfalso
        have e := dbl_unq _ _ _ (Nat.le_refl _) hu
        rw [e] at hin
        have hs2 : s.data.toList = quo u := hin
        rw [hs2, inn_quo] at h
        exact h rfl
  · refine ⟨_, unquote_no s w hs ?_, fun h => absurd (quo_size h) hq, fun _ => rfl⟩
    by_cases h2 : 2 ≤ s.size
    · by_cases h3 : (s[0].toNat : Int) = 39
      · refine .inr (.inr ⟨by omega, h2, ⟨by omega, h3⟩, fun h4 => hq ⟨h2, ⟨by omega, h3⟩, ⟨by omega, h4⟩⟩⟩)
      · exact .inr (.inl ⟨by omega, h2, h3⟩)
    · exact .inl (by omega)
theorem dec_zero {A : List UInt8} (h : numOk A = true) : decV A = 0 ↔ A = [48] := by
  constructor
  · intro e
    have := decV_back _ A rfl h
    rw [e] at this
    rw [← this]; exact dec_small 0 (by omega)
  · intro e; subst e; rfl
theorem sat_le {A : List UInt8} : (satV A ≤ 1125899906842624 ↔ decV A ≤ 1125899906842624) ∧ (decV A ≤ 1125899906842624 → satV A = decV A) := by
  unfold satV; omega
set_option maxRecDepth 100000 in
set_option maxHeartbeats 1600000 in
theorem rp_long (s : ByteArray) (w : World) (t : ByteArray) (j1 : (s.toList == [78, 85, 76, 76]) = false) (j2 : (s.toList == [84, 82, 85, 69]) = false) (j3 : (s.toList == [70, 65, 76, 83, 69]) = false) (hU : ∀ W, Calls Tryz.prog 55 #[.string s] W fun e w' => e = .returned (.tuple #[.string t, .bool true]) ∧ w' = W) (hl : (t.size : Int) > 200) :
    Calls Tryz.prog 38 #[.string s] w fun e w' => e = .returned (.tuple #[.agg #[.int .i64 0, .int .i64 0, .string ⟨#[]⟩], .int .i64 5]) ∧ Below w.heap.size w w' := by
  have oB : Own (w.alloc (.cells #[.int .i64 0, .int .i64 0, .string ⟨#[]⟩] 23)) w.heap.size 23 #[.int .i64 0, .int .i64 0, .string ⟨#[]⟩] := Own.new _ _ _
  have bW := (Below.refl w.heap.size w).alloc (Nat.le_refl _) (.cells #[.int .i64 0, .int .i64 0, .string ⟨#[]⟩] 23)
  go_enter Tryz.func38, Tryz.ntmps38
  go_wp2_with fail
  generalize w.alloc (.cells #[.int .i64 0, .int .i64 0, .string ⟨#[]⟩] 23) = W at *
  refine (hU _).mono ?_
  rintro e w1 ⟨rfl, rfl⟩
  have d0 := oB.cell 0; have e0 := oB.free 0; have d1 := oB.cell 1; have e1 := oB.free 1; have d2 := oB.cell 2; have e2 := oB.free 2; (try simp only [List.getElem?_toArray, List.getElem?_cons_zero, List.getElem?_cons_succ] at d0 d1 d2)
  go_wp2
  (try simp only [Exit.inBlock, Exit.then]); refine bodyPost_ret_by (results_cell_row2 (by rfl) _ _ (w.heap.size) _ (by rfl) (load_val (((oB.store 0 _).store 1 _).store 2 _))) ?_ ?_; (focus rfl); refine ⟨rfl, ?_⟩
  (repeat' (first | (with_reducible exact Below.refl _ _) | (with_reducible assumption) | (with_reducible refine Below.alloc ?_ ?_ _) | (with_reducible refine Below.drew ?_) | (with_reducible refine Below.setCell ?_ ?_ _) | (with_reducible refine Below.trans ?_ (Below.mono (by assumption) ?_)) | go_size))
set_option maxRecDepth 100000 in
set_option maxHeartbeats 1600000 in
theorem rp_text (s : ByteArray) (w : World) (t : ByteArray) (j1 : (s.toList == [78, 85, 76, 76]) = false) (j2 : (s.toList == [84, 82, 85, 69]) = false) (j3 : (s.toList == [70, 65, 76, 83, 69]) = false) (hU : ∀ W, Calls Tryz.prog 55 #[.string s] W fun e w' => e = .returned (.tuple #[.string t, .bool true]) ∧ w' = W) (hl : ¬ (t.size : Int) > 200) (hT : ∀ W, Calls Tryz.prog 17 #[.string t] W fun e w' => e = .returned (.agg #[.int .i64 2, .int .i64 0, .string t]) ∧ Below W.heap.size W w') :
    Calls Tryz.prog 38 #[.string s] w fun e w' => e = .returned (.tuple #[.agg #[.int .i64 2, .int .i64 0, .string t], .int .i64 0]) ∧ Below w.heap.size w w' := by
  have oB : Own (w.alloc (.cells #[.int .i64 0, .int .i64 0, .string ⟨#[]⟩] 23)) w.heap.size 23 #[.int .i64 0, .int .i64 0, .string ⟨#[]⟩] := Own.new _ _ _
  have bW := (Below.refl w.heap.size w).alloc (Nat.le_refl _) (.cells #[.int .i64 0, .int .i64 0, .string ⟨#[]⟩] 23)
  go_enter Tryz.func38, Tryz.ntmps38
  go_wp2_with fail
  generalize w.alloc (.cells #[.int .i64 0, .int .i64 0, .string ⟨#[]⟩] 23) = W at *
  refine (hU _).mono ?_
  rintro e w1 ⟨rfl, rfl⟩
  go_wp2_with fail
  refine (hT _).mono ?_
  rintro e w2 ⟨rfl, hb2⟩
  have b2 := bW.trans (hb2.mono bW.size)
  have o2 := oB.below hb2 oB.lt
  have d0 := o2.cell 0; have e0 := o2.free 0; have d1 := o2.cell 1; have e1 := o2.free 1; have d2 := o2.cell 2; have e2 := o2.free 2; (try simp only [List.getElem?_toArray, List.getElem?_cons_zero, List.getElem?_cons_succ] at d0 d1 d2)
  go_wp2
  (try simp only [Exit.inBlock, Exit.then]); refine bodyPost_ret_by (results_cell_row2 (by rfl) _ _ (w.heap.size) _ (by rfl) (load_val (((o2.store 0 _).store 1 _).store 2 _))) ?_ ?_; (focus rfl); refine ⟨rfl, ?_⟩
  (repeat' (first | (with_reducible exact Below.refl _ _) | (with_reducible assumption) | (with_reducible refine Below.alloc ?_ ?_ _) | (with_reducible refine Below.drew ?_) | (with_reducible refine Below.setCell ?_ ?_ _) | (with_reducible refine Below.trans ?_ (Below.mono (by assumption) ?_)) | go_size))
set_option maxRecDepth 100000 in
set_option maxHeartbeats 1600000 in
theorem rp_E_bad (s : ByteArray) (w : World) (x : ByteArray) (z : Int) (_j1 : (s.toList == [78, 85, 76, 76]) = false) (_j2 : (s.toList == [84, 82, 85, 69]) = false) (_j3 : (s.toList == [70, 65, 76, 83, 69]) = false) (hU : ∀ W, Calls Tryz.prog 55 #[.string s] W fun e w' => e = .returned (.tuple #[.string x, .bool false]) ∧ w' = W) (hs0 : s.toList = []) (hN : ∀ W, Calls Tryz.prog 56 #[.string s] W fun e w' => e = .returned (.tuple #[.int .i64 z, .bool false]) ∧ w' = W) :
    Calls Tryz.prog 38 #[.string s] w fun e w' => e = .returned (.tuple #[.agg #[.int .i64 0, .int .i64 0, .string ⟨#[]⟩], .int .i64 1]) ∧ Below w.heap.size w w' := by
  have oB : Own (w.alloc (.cells #[.int .i64 0, .int .i64 0, .string ⟨#[]⟩] 23)) w.heap.size 23 #[.int .i64 0, .int .i64 0, .string ⟨#[]⟩] := Own.new _ _ _
  have bW := (Below.refl w.heap.size w).alloc (Nat.le_refl _) (.cells #[.int .i64 0, .int .i64 0, .string ⟨#[]⟩] 23)
  go_enter Tryz.func38, Tryz.ntmps38
  go_wp2_with fail
  generalize w.alloc (.cells #[.int .i64 0, .int .i64 0, .string ⟨#[]⟩] 23) = W at *
  refine (hU _).mono ?_
  rintro e w1 ⟨rfl, rfl⟩
  go_wp2_with fail
  refine (hN _).mono ?_
  rintro e w1 ⟨rfl, rfl⟩
  have d0 := oB.cell 0; have e0 := oB.free 0; have d1 := oB.cell 1; have e1 := oB.free 1; have d2 := oB.cell 2; have e2 := oB.free 2; (try simp only [List.getElem?_toArray, List.getElem?_cons_zero, List.getElem?_cons_succ] at d0 d1 d2)
  go_wp2
  (try simp only [Exit.inBlock, Exit.then]); refine bodyPost_ret_by (results_cell_row2 (by rfl) _ _ (w.heap.size) _ (by rfl) (load_val (((oB.store 0 _).store 1 _).store 2 _))) ?_ ?_; (focus rfl); refine ⟨rfl, ?_⟩
  (repeat' (first | (with_reducible exact Below.refl _ _) | (with_reducible assumption) | (with_reducible refine Below.alloc ?_ ?_ _) | (with_reducible refine Below.drew ?_) | (with_reducible refine Below.setCell ?_ ?_ _) | (with_reducible refine Below.trans ?_ (Below.mono (by assumption) ?_)) | go_size))
set_option maxRecDepth 100000 in
set_option maxHeartbeats 1600000 in
theorem rp_P_bad (s : ByteArray) (w : World) (x : ByteArray) (z : Int) (j1 : (s.toList == [78, 85, 76, 76]) = false) (j2 : (s.toList == [84, 82, 85, 69]) = false) (j3 : (s.toList == [70, 65, 76, 83, 69]) = false) (hU : ∀ W, Calls Tryz.prog 55 #[.string s] W fun e w' => e = .returned (.tuple #[.string x, .bool false]) ∧ w' = W) (h0 : 0 < s.size) (hne : (s.toList == []) = false) (_hem : s.toList.isEmpty = false) (hc : ((s[0].toNat : Int) == 45) = false) (hN : ∀ W, Calls Tryz.prog 56 #[.string s] W fun e w' => e = .returned (.tuple #[.int .i64 z, .bool false]) ∧ w' = W) :
    Calls Tryz.prog 38 #[.string s] w fun e w' => e = .returned (.tuple #[.agg #[.int .i64 0, .int .i64 0, .string ⟨#[]⟩], .int .i64 1]) ∧ Below w.heap.size w w' := by
  have oB : Own (w.alloc (.cells #[.int .i64 0, .int .i64 0, .string ⟨#[]⟩] 23)) w.heap.size 23 #[.int .i64 0, .int .i64 0, .string ⟨#[]⟩] := Own.new _ _ _
  have bW := (Below.refl w.heap.size w).alloc (Nat.le_refl _) (.cells #[.int .i64 0, .int .i64 0, .string ⟨#[]⟩] 23)
  go_enter Tryz.func38, Tryz.ntmps38
  go_wp2_with fail
  generalize w.alloc (.cells #[.int .i64 0, .int .i64 0, .string ⟨#[]⟩] 23) = W at *
  refine (hU _).mono ?_
  rintro e w1 ⟨rfl, rfl⟩
  go_wp2_with fail
  refine (hN _).mono ?_
  rintro e w1 ⟨rfl, rfl⟩
  have d0 := oB.cell 0; have e0 := oB.free 0; have d1 := oB.cell 1; have e1 := oB.free 1; have d2 := oB.cell 2; have e2 := oB.free 2; (try simp only [List.getElem?_toArray, List.getElem?_cons_zero, List.getElem?_cons_succ] at d0 d1 d2)
  go_wp2
  (try simp only [Exit.inBlock, Exit.then]); refine bodyPost_ret_by (results_cell_row2 (by rfl) _ _ (w.heap.size) _ (by rfl) (load_val (((oB.store 0 _).store 1 _).store 2 _))) ?_ ?_; (focus rfl); refine ⟨rfl, ?_⟩
  (repeat' (first | (with_reducible exact Below.refl _ _) | (with_reducible assumption) | (with_reducible refine Below.alloc ?_ ?_ _) | (with_reducible refine Below.drew ?_) | (with_reducible refine Below.setCell ?_ ?_ _) | (with_reducible refine Below.trans ?_ (Below.mono (by assumption) ?_)) | go_size))
set_option maxRecDepth 100000 in
set_option maxHeartbeats 1600000 in
theorem rp_P_range (s : ByteArray) (w : World) (x : ByteArray) (z : Int) (j1 : (s.toList == [78, 85, 76, 76]) = false) (j2 : (s.toList == [84, 82, 85, 69]) = false) (j3 : (s.toList == [70, 65, 76, 83, 69]) = false) (hU : ∀ W, Calls Tryz.prog 55 #[.string s] W fun e w' => e = .returned (.tuple #[.string x, .bool false]) ∧ w' = W) (h0 : 0 < s.size) (hne : (s.toList == []) = false) (_hem : s.toList.isEmpty = false) (hc : ((s[0].toNat : Int) == 45) = false) (hN : ∀ W, Calls Tryz.prog 56 #[.string s] W fun e w' => e = .returned (.tuple #[.int .i64 z, .bool true]) ∧ w' = W) (hz : z > 1125899906842624) :
    Calls Tryz.prog 38 #[.string s] w fun e w' => e = .returned (.tuple #[.agg #[.int .i64 0, .int .i64 0, .string ⟨#[]⟩], .int .i64 6]) ∧ Below w.heap.size w w' := by
  have oB : Own (w.alloc (.cells #[.int .i64 0, .int .i64 0, .string ⟨#[]⟩] 23)) w.heap.size 23 #[.int .i64 0, .int .i64 0, .string ⟨#[]⟩] := Own.new _ _ _
  have bW := (Below.refl w.heap.size w).alloc (Nat.le_refl _) (.cells #[.int .i64 0, .int .i64 0, .string ⟨#[]⟩] 23)
  go_enter Tryz.func38, Tryz.ntmps38
  go_wp2_with fail
  generalize w.alloc (.cells #[.int .i64 0, .int .i64 0, .string ⟨#[]⟩] 23) = W at *
  refine (hU _).mono ?_
  rintro e w1 ⟨rfl, rfl⟩
  go_wp2_with fail
  refine (hN _).mono ?_
  rintro e w1 ⟨rfl, rfl⟩
  have d0 := oB.cell 0; have e0 := oB.free 0; have d1 := oB.cell 1; have e1 := oB.free 1; have d2 := oB.cell 2; have e2 := oB.free 2; (try simp only [List.getElem?_toArray, List.getElem?_cons_zero, List.getElem?_cons_succ] at d0 d1 d2)
  go_wp2
  (try simp only [Exit.inBlock, Exit.then]); refine bodyPost_ret_by (results_cell_row2 (by rfl) _ _ (w.heap.size) _ (by rfl) (load_val (((oB.store 0 _).store 1 _).store 2 _))) ?_ ?_; (focus rfl); refine ⟨rfl, ?_⟩
  (repeat' (first | (with_reducible exact Below.refl _ _) | (with_reducible assumption) | (with_reducible refine Below.alloc ?_ ?_ _) | (with_reducible refine Below.drew ?_) | (with_reducible refine Below.setCell ?_ ?_ _) | (with_reducible refine Below.trans ?_ (Below.mono (by assumption) ?_)) | go_size))
set_option maxRecDepth 100000 in
set_option maxHeartbeats 1600000 in
theorem rp_P_ok (s : ByteArray) (w : World) (x : ByteArray) (z : Int) (j1 : (s.toList == [78, 85, 76, 76]) = false) (j2 : (s.toList == [84, 82, 85, 69]) = false) (j3 : (s.toList == [70, 65, 76, 83, 69]) = false) (hU : ∀ W, Calls Tryz.prog 55 #[.string s] W fun e w' => e = .returned (.tuple #[.string x, .bool false]) ∧ w' = W) (h0 : 0 < s.size) (hne : (s.toList == []) = false) (_hem : s.toList.isEmpty = false) (hc : ((s[0].toNat : Int) == 45) = false) (hN : ∀ W, Calls Tryz.prog 56 #[.string s] W fun e w' => e = .returned (.tuple #[.int .i64 z, .bool true]) ∧ w' = W) (hz : ¬ z > 1125899906842624) (hp : 0 ≤ z) (hI : ∀ W, Calls Tryz.prog 15 #[.int .i64 z] W fun e w' => e = .returned (.agg #[.int .i64 1, .int .i64 z, .string ⟨#[]⟩]) ∧ Below W.heap.size W w') :
    Calls Tryz.prog 38 #[.string s] w fun e w' => e = .returned (.tuple #[.agg #[.int .i64 1, .int .i64 z, .string ⟨#[]⟩], .int .i64 0]) ∧ Below w.heap.size w w' := by
  have oB : Own (w.alloc (.cells #[.int .i64 0, .int .i64 0, .string ⟨#[]⟩] 23)) w.heap.size 23 #[.int .i64 0, .int .i64 0, .string ⟨#[]⟩] := Own.new _ _ _
  have bW := (Below.refl w.heap.size w).alloc (Nat.le_refl _) (.cells #[.int .i64 0, .int .i64 0, .string ⟨#[]⟩] 23)
  go_enter Tryz.func38, Tryz.ntmps38
  go_wp2_with fail
  generalize w.alloc (.cells #[.int .i64 0, .int .i64 0, .string ⟨#[]⟩] 23) = W at *
  refine (hU _).mono ?_
  rintro e w1 ⟨rfl, rfl⟩
  go_wp2_with fail
  refine (hN _).mono ?_
  rintro e w1 ⟨rfl, rfl⟩
  go_wp2_with fail
  refine (hI _).mono ?_
  rintro e w2 ⟨rfl, hb2⟩
  have b2 := bW.trans (hb2.mono bW.size)
  have o2 := oB.below hb2 oB.lt
  have d0 := o2.cell 0; have e0 := o2.free 0; have d1 := o2.cell 1; have e1 := o2.free 1; have d2 := o2.cell 2; have e2 := o2.free 2; (try simp only [List.getElem?_toArray, List.getElem?_cons_zero, List.getElem?_cons_succ] at d0 d1 d2)
  go_wp2
  (try simp only [Exit.inBlock, Exit.then]); refine bodyPost_ret_by (results_cell_row2 (by rfl) _ _ (w.heap.size) _ (by rfl) (load_val (((o2.store 0 _).store 1 _).store 2 _))) ?_ ?_; (focus rfl); refine ⟨rfl, ?_⟩
  (repeat' (first | (with_reducible exact Below.refl _ _) | (with_reducible assumption) | (with_reducible refine Below.alloc ?_ ?_ _) | (with_reducible refine Below.drew ?_) | (with_reducible refine Below.setCell ?_ ?_ _) | (with_reducible refine Below.trans ?_ (Below.mono (by assumption) ?_)) | go_size))
set_option maxRecDepth 100000 in
set_option maxHeartbeats 1600000 in
theorem rp_N_bad (s : ByteArray) (w : World) (x : ByteArray) (z : Int) (j1 : (s.toList == [78, 85, 76, 76]) = false) (j2 : (s.toList == [84, 82, 85, 69]) = false) (j3 : (s.toList == [70, 65, 76, 83, 69]) = false) (hU : ∀ W, Calls Tryz.prog 55 #[.string s] W fun e w' => e = .returned (.tuple #[.string x, .bool false]) ∧ w' = W) (h0 : 0 < s.size) (hne : (s.toList == []) = false) (_hem : s.toList.isEmpty = false) (hc : (s[0].toNat : Int) = 45) (h1s : (1 : Int) ≤ (s.size : Int)) (hN : ∀ W, Calls Tryz.prog 56 #[.string (s.extract 1 s.size)] W fun e w' => e = .returned (.tuple #[.int .i64 z, .bool false]) ∧ w' = W) :
    Calls Tryz.prog 38 #[.string s] w fun e w' => e = .returned (.tuple #[.agg #[.int .i64 0, .int .i64 0, .string ⟨#[]⟩], .int .i64 1]) ∧ Below w.heap.size w w' := by
  have oB : Own (w.alloc (.cells #[.int .i64 0, .int .i64 0, .string ⟨#[]⟩] 23)) w.heap.size 23 #[.int .i64 0, .int .i64 0, .string ⟨#[]⟩] := Own.new _ _ _
  have bW := (Below.refl w.heap.size w).alloc (Nat.le_refl _) (.cells #[.int .i64 0, .int .i64 0, .string ⟨#[]⟩] 23)
  go_enter Tryz.func38, Tryz.ntmps38
  go_wp2_with fail
  generalize w.alloc (.cells #[.int .i64 0, .int .i64 0, .string ⟨#[]⟩] 23) = W at *
  refine (hU _).mono ?_
  rintro e w1 ⟨rfl, rfl⟩
  go_wp2_with fail
  refine (hN _).mono ?_
  rintro e w1 ⟨rfl, rfl⟩
  have d0 := oB.cell 0; have e0 := oB.free 0; have d1 := oB.cell 1; have e1 := oB.free 1; have d2 := oB.cell 2; have e2 := oB.free 2; (try simp only [List.getElem?_toArray, List.getElem?_cons_zero, List.getElem?_cons_succ] at d0 d1 d2)
  go_wp2
  (try simp only [Exit.inBlock, Exit.then]); refine bodyPost_ret_by (results_cell_row2 (by rfl) _ _ (w.heap.size) _ (by rfl) (load_val (((oB.store 0 _).store 1 _).store 2 _))) ?_ ?_; (focus rfl); refine ⟨rfl, ?_⟩
  (repeat' (first | (with_reducible exact Below.refl _ _) | (with_reducible assumption) | (with_reducible refine Below.alloc ?_ ?_ _) | (with_reducible refine Below.drew ?_) | (with_reducible refine Below.setCell ?_ ?_ _) | (with_reducible refine Below.trans ?_ (Below.mono (by assumption) ?_)) | go_size))
set_option maxRecDepth 100000 in
set_option maxHeartbeats 1600000 in
theorem rp_N_zero (s : ByteArray) (w : World) (x : ByteArray) (j1 : (s.toList == [78, 85, 76, 76]) = false) (j2 : (s.toList == [84, 82, 85, 69]) = false) (j3 : (s.toList == [70, 65, 76, 83, 69]) = false) (hU : ∀ W, Calls Tryz.prog 55 #[.string s] W fun e w' => e = .returned (.tuple #[.string x, .bool false]) ∧ w' = W) (h0 : 0 < s.size) (hne : (s.toList == []) = false) (_hem : s.toList.isEmpty = false) (hc : (s[0].toNat : Int) = 45) (h1s : (1 : Int) ≤ (s.size : Int)) (hN : ∀ W, Calls Tryz.prog 56 #[.string (s.extract 1 s.size)] W fun e w' => e = .returned (.tuple #[.int .i64 0, .bool true]) ∧ w' = W) :
    Calls Tryz.prog 38 #[.string s] w fun e w' => e = .returned (.tuple #[.agg #[.int .i64 0, .int .i64 0, .string ⟨#[]⟩], .int .i64 1]) ∧ Below w.heap.size w w' := by
  have oB : Own (w.alloc (.cells #[.int .i64 0, .int .i64 0, .string ⟨#[]⟩] 23)) w.heap.size 23 #[.int .i64 0, .int .i64 0, .string ⟨#[]⟩] := Own.new _ _ _
  have bW := (Below.refl w.heap.size w).alloc (Nat.le_refl _) (.cells #[.int .i64 0, .int .i64 0, .string ⟨#[]⟩] 23)
  go_enter Tryz.func38, Tryz.ntmps38
  go_wp2_with fail
  generalize w.alloc (.cells #[.int .i64 0, .int .i64 0, .string ⟨#[]⟩] 23) = W at *
  refine (hU _).mono ?_
  rintro e w1 ⟨rfl, rfl⟩
  go_wp2_with fail
  refine (hN _).mono ?_
  rintro e w1 ⟨rfl, rfl⟩
  have d0 := oB.cell 0; have e0 := oB.free 0; have d1 := oB.cell 1; have e1 := oB.free 1; have d2 := oB.cell 2; have e2 := oB.free 2; (try simp only [List.getElem?_toArray, List.getElem?_cons_zero, List.getElem?_cons_succ] at d0 d1 d2)
  go_wp2
  (try simp only [Exit.inBlock, Exit.then]); refine bodyPost_ret_by (results_cell_row2 (by rfl) _ _ (w.heap.size) _ (by rfl) (load_val (((oB.store 0 _).store 1 _).store 2 _))) ?_ ?_; (focus rfl); refine ⟨rfl, ?_⟩
  (repeat' (first | (with_reducible exact Below.refl _ _) | (with_reducible assumption) | (with_reducible refine Below.alloc ?_ ?_ _) | (with_reducible refine Below.drew ?_) | (with_reducible refine Below.setCell ?_ ?_ _) | (with_reducible refine Below.trans ?_ (Below.mono (by assumption) ?_)) | go_size))
set_option maxRecDepth 100000 in
set_option maxHeartbeats 1600000 in
theorem rp_N_range (s : ByteArray) (w : World) (x : ByteArray) (z : Int) (j1 : (s.toList == [78, 85, 76, 76]) = false) (j2 : (s.toList == [84, 82, 85, 69]) = false) (j3 : (s.toList == [70, 65, 76, 83, 69]) = false) (hU : ∀ W, Calls Tryz.prog 55 #[.string s] W fun e w' => e = .returned (.tuple #[.string x, .bool false]) ∧ w' = W) (h0 : 0 < s.size) (hne : (s.toList == []) = false) (_hem : s.toList.isEmpty = false) (hc : (s[0].toNat : Int) = 45) (h1s : (1 : Int) ≤ (s.size : Int)) (hN : ∀ W, Calls Tryz.prog 56 #[.string (s.extract 1 s.size)] W fun e w' => e = .returned (.tuple #[.int .i64 z, .bool true]) ∧ w' = W) (hz : z > 1125899906842624) (hz0 : (z == 0) = false) :
    Calls Tryz.prog 38 #[.string s] w fun e w' => e = .returned (.tuple #[.agg #[.int .i64 0, .int .i64 0, .string ⟨#[]⟩], .int .i64 6]) ∧ Below w.heap.size w w' := by
  have oB : Own (w.alloc (.cells #[.int .i64 0, .int .i64 0, .string ⟨#[]⟩] 23)) w.heap.size 23 #[.int .i64 0, .int .i64 0, .string ⟨#[]⟩] := Own.new _ _ _
  have bW := (Below.refl w.heap.size w).alloc (Nat.le_refl _) (.cells #[.int .i64 0, .int .i64 0, .string ⟨#[]⟩] 23)
  go_enter Tryz.func38, Tryz.ntmps38
  go_wp2_with fail
  generalize w.alloc (.cells #[.int .i64 0, .int .i64 0, .string ⟨#[]⟩] 23) = W at *
  refine (hU _).mono ?_
  rintro e w1 ⟨rfl, rfl⟩
  go_wp2_with fail
  refine (hN _).mono ?_
  rintro e w1 ⟨rfl, rfl⟩
  have d0 := oB.cell 0; have e0 := oB.free 0; have d1 := oB.cell 1; have e1 := oB.free 1; have d2 := oB.cell 2; have e2 := oB.free 2; (try simp only [List.getElem?_toArray, List.getElem?_cons_zero, List.getElem?_cons_succ] at d0 d1 d2)
  go_wp2
  (try simp only [Exit.inBlock, Exit.then]); refine bodyPost_ret_by (results_cell_row2 (by rfl) _ _ (w.heap.size) _ (by rfl) (load_val (((oB.store 0 _).store 1 _).store 2 _))) ?_ ?_; (focus rfl); refine ⟨rfl, ?_⟩
  (repeat' (first | (with_reducible exact Below.refl _ _) | (with_reducible assumption) | (with_reducible refine Below.alloc ?_ ?_ _) | (with_reducible refine Below.drew ?_) | (with_reducible refine Below.setCell ?_ ?_ _) | (with_reducible refine Below.trans ?_ (Below.mono (by assumption) ?_)) | go_size))
set_option maxRecDepth 100000 in
set_option maxHeartbeats 1600000 in
theorem rp_N_ok (s : ByteArray) (w : World) (x : ByteArray) (z : Int) (j1 : (s.toList == [78, 85, 76, 76]) = false) (j2 : (s.toList == [84, 82, 85, 69]) = false) (j3 : (s.toList == [70, 65, 76, 83, 69]) = false) (hU : ∀ W, Calls Tryz.prog 55 #[.string s] W fun e w' => e = .returned (.tuple #[.string x, .bool false]) ∧ w' = W) (h0 : 0 < s.size) (hne : (s.toList == []) = false) (_hem : s.toList.isEmpty = false) (hc : (s[0].toNat : Int) = 45) (h1s : (1 : Int) ≤ (s.size : Int)) (hN : ∀ W, Calls Tryz.prog 56 #[.string (s.extract 1 s.size)] W fun e w' => e = .returned (.tuple #[.int .i64 z, .bool true]) ∧ w' = W) (hz : ¬ z > 1125899906842624) (hp : 0 ≤ z) (hz0 : (z == 0) = false) (hI : ∀ W, Calls Tryz.prog 15 #[.int .i64 (-z)] W fun e w' => e = .returned (.agg #[.int .i64 1, .int .i64 (-z), .string ⟨#[]⟩]) ∧ Below W.heap.size W w') :
    Calls Tryz.prog 38 #[.string s] w fun e w' => e = .returned (.tuple #[.agg #[.int .i64 1, .int .i64 (-z), .string ⟨#[]⟩], .int .i64 0]) ∧ Below w.heap.size w w' := by
  have oB : Own (w.alloc (.cells #[.int .i64 0, .int .i64 0, .string ⟨#[]⟩] 23)) w.heap.size 23 #[.int .i64 0, .int .i64 0, .string ⟨#[]⟩] := Own.new _ _ _
  have bW := (Below.refl w.heap.size w).alloc (Nat.le_refl _) (.cells #[.int .i64 0, .int .i64 0, .string ⟨#[]⟩] 23)
  go_enter Tryz.func38, Tryz.ntmps38
  go_wp2_with fail
  generalize w.alloc (.cells #[.int .i64 0, .int .i64 0, .string ⟨#[]⟩] 23) = W at *
  refine (hU _).mono ?_
  rintro e w1 ⟨rfl, rfl⟩
  go_wp2_with fail
  refine (hN _).mono ?_
  rintro e w1 ⟨rfl, rfl⟩
  go_wp2_with fail
  refine (hI _).mono ?_
  rintro e w2 ⟨rfl, hb2⟩
  have b2 := bW.trans (hb2.mono bW.size)
  have o2 := oB.below hb2 oB.lt
  have d0 := o2.cell 0; have e0 := o2.free 0; have d1 := o2.cell 1; have e1 := o2.free 1; have d2 := o2.cell 2; have e2 := o2.free 2; (try simp only [List.getElem?_toArray, List.getElem?_cons_zero, List.getElem?_cons_succ] at d0 d1 d2)
  go_wp2
  (try simp only [Exit.inBlock, Exit.then]); refine bodyPost_ret_by (results_cell_row2 (by rfl) _ _ (w.heap.size) _ (by rfl) (load_val (((o2.store 0 _).store 1 _).store 2 _))) ?_ ?_; (focus rfl); refine ⟨rfl, ?_⟩
  (repeat' (first | (with_reducible exact Below.refl _ _) | (with_reducible assumption) | (with_reducible refine Below.alloc ?_ ?_ _) | (with_reducible refine Below.drew ?_) | (with_reducible refine Below.setCell ?_ ?_ _) | (with_reducible refine Below.trans ?_ (Below.mono (by assumption) ?_)) | go_size))
end Go.Proofs.YthjnkekkjjcnfaaGreatDoor
