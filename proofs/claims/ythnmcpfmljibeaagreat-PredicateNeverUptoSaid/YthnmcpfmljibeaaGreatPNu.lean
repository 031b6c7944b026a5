import Derived.Test.YthnmcpfmljibeaaGreatPNm
import Derived.WalkKit
import Derived.WalkSpells
import Derived.WalkLawsBesides
import Derived.Deep.QuietTactic
import Derived.BigQuiet
import Derived.Handy
import Derived.Lib.Hide
/-
  The reference's texts. Conditions: none. (Written by mkPdNu.py.)
-/
namespace Go.Proofs.YthnmcpfmljibeaaGreat
set_option maxRecDepth 100000
set_option linter.unusedVariables false
set_option linter.unusedSimpArgs false
open Go.RowKit

set_option maxRecDepth 100000 in
set_option maxHeartbeats 6400000 in
theorem rTxt_00 (ca ka na cb kb nb : Int) (s t : ByteArray) (w : World) :
    Calls Tryz.prog 122 #[.agg #[.int .i64 7, .int .i64 ca, .int .i64 ka, .int .i64 na, .string s], .agg #[.int .i64 7, .int .i64 cb, .int .i64 kb, .int .i64 nb, .string t]] w fun e w' => e = .returned (.bool (txtC ⟨7, ca, (ka, na, s)⟩ ⟨7, cb, (kb, nb, t)⟩)) ∧ Below w.heap.size w w' := by
  have HB := Lib.hid (show Below w.heap.size w ((w.alloc (.cells #[.int .i64 7, .int .i64 ca, .int .i64 ka, .int .i64 na, .string s] 42)).alloc (.cells #[.int .i64 7, .int .i64 cb, .int .i64 kb, .int .i64 nb, .string t] 42)) from (bel_mk w _).trans ((bel_mk _ _).mono (by simp)))
  unfold txtC lowO uppO txL txE Va.emp
  dsimp only
  cases hl : Op.bytesLess s.toList t.toList <;> cases he : s.toList == t.toList
  all_goals
    go_enter Tryz.func122, Tryz.ntmps122
    go_wp2
    go_ret
    exact ⟨by simp [*], HB.out⟩
set_option maxRecDepth 100000 in
set_option maxHeartbeats 6400000 in
theorem rTxt_01 (ca ka na cb kb nb : Int) (s t : ByteArray) (w : World) :
    Calls Tryz.prog 122 #[.agg #[.int .i64 7, .int .i64 ca, .int .i64 ka, .int .i64 na, .string s], .agg #[.int .i64 9, .int .i64 cb, .int .i64 kb, .int .i64 nb, .string t]] w fun e w' => e = .returned (.bool (txtC ⟨7, ca, (ka, na, s)⟩ ⟨9, cb, (kb, nb, t)⟩)) ∧ Below w.heap.size w w' := by
  have HB := Lib.hid (show Below w.heap.size w ((w.alloc (.cells #[.int .i64 7, .int .i64 ca, .int .i64 ka, .int .i64 na, .string s] 42)).alloc (.cells #[.int .i64 9, .int .i64 cb, .int .i64 kb, .int .i64 nb, .string t] 42)) from (bel_mk w _).trans ((bel_mk _ _).mono (by simp)))
  unfold txtC lowO uppO txL txE Va.emp
  dsimp only
  cases hm : t.toList == [] <;> cases hl : Op.bytesLess s.toList t.toList <;> cases he : s.toList == t.toList
  all_goals
    go_enter Tryz.func122, Tryz.ntmps122
    go_wp2
    go_ret
    exact ⟨by simp [*], HB.out⟩
set_option maxRecDepth 100000 in
set_option maxHeartbeats 6400000 in
theorem rTxt_02 (ca ka na cb kb nb : Int) (s t : ByteArray) (w : World) :
    Calls Tryz.prog 122 #[.agg #[.int .i64 7, .int .i64 ca, .int .i64 ka, .int .i64 na, .string s], .agg #[.int .i64 10, .int .i64 cb, .int .i64 kb, .int .i64 nb, .string t]] w fun e w' => e = .returned (.bool (txtC ⟨7, ca, (ka, na, s)⟩ ⟨10, cb, (kb, nb, t)⟩)) ∧ Below w.heap.size w w' := by
  have HB := Lib.hid (show Below w.heap.size w ((w.alloc (.cells #[.int .i64 7, .int .i64 ca, .int .i64 ka, .int .i64 na, .string s] 42)).alloc (.cells #[.int .i64 10, .int .i64 cb, .int .i64 kb, .int .i64 nb, .string t] 42)) from (bel_mk w _).trans ((bel_mk _ _).mono (by simp)))
  unfold txtC lowO uppO txL txE Va.emp
  dsimp only
  cases hl : Op.bytesLess s.toList t.toList <;> cases he : s.toList == t.toList
  all_goals
    go_enter Tryz.func122, Tryz.ntmps122
    go_wp2
    go_ret
    exact ⟨by simp [*], HB.out⟩
set_option maxRecDepth 100000 in
set_option maxHeartbeats 6400000 in
theorem rTxt_03 (ob : Int) (ca ka na cb kb nb : Int) (s t : ByteArray) (w : World) (b7 : ob ≠ 7) (b9 : ob ≠ 9) (b10 : ob ≠ 10) :
    Calls Tryz.prog 122 #[.agg #[.int .i64 7, .int .i64 ca, .int .i64 ka, .int .i64 na, .string s], .agg #[.int .i64 ob, .int .i64 cb, .int .i64 kb, .int .i64 nb, .string t]] w fun e w' => e = .returned (.bool (txtC ⟨7, ca, (ka, na, s)⟩ ⟨ob, cb, (kb, nb, t)⟩)) ∧ Below w.heap.size w w' := by
  have HB := Lib.hid (show Below w.heap.size w ((w.alloc (.cells #[.int .i64 7, .int .i64 ca, .int .i64 ka, .int .i64 na, .string s] 42)).alloc (.cells #[.int .i64 ob, .int .i64 cb, .int .i64 kb, .int .i64 nb, .string t] 42)) from (bel_mk w _).trans ((bel_mk _ _).mono (by simp)))
  unfold txtC lowO uppO txL txE Va.emp
  dsimp only
  have b9c : ¬ ob = 9 := b9
  have b7b : (ob == 7) = false := by rw [beq_eq_false_iff_ne]; exact b7
  have b9b : (ob == 9) = false := by rw [beq_eq_false_iff_ne]; exact b9
  have b10b : (ob == 10) = false := by rw [beq_eq_false_iff_ne]; exact b10
  clear b7 b10 b9
  go_enter Tryz.func122, Tryz.ntmps122
  go_wp2
  go_ret
  exact ⟨by simp [*], HB.out⟩
set_option maxRecDepth 100000 in
set_option maxHeartbeats 6400000 in
theorem rTxt_10 (ca ka na cb kb nb : Int) (s t : ByteArray) (w : World) :
    Calls Tryz.prog 122 #[.agg #[.int .i64 11, .int .i64 ca, .int .i64 ka, .int .i64 na, .string s], .agg #[.int .i64 7, .int .i64 cb, .int .i64 kb, .int .i64 nb, .string t]] w fun e w' => e = .returned (.bool (txtC ⟨11, ca, (ka, na, s)⟩ ⟨7, cb, (kb, nb, t)⟩)) ∧ Below w.heap.size w w' := by
  have HB := Lib.hid (show Below w.heap.size w ((w.alloc (.cells #[.int .i64 11, .int .i64 ca, .int .i64 ka, .int .i64 na, .string s] 42)).alloc (.cells #[.int .i64 7, .int .i64 cb, .int .i64 kb, .int .i64 nb, .string t] 42)) from (bel_mk w _).trans ((bel_mk _ _).mono (by simp)))
  unfold txtC lowO uppO txL txE Va.emp
  dsimp only
  cases hl : Op.bytesLess s.toList t.toList <;> cases he : s.toList == t.toList
  all_goals
    go_enter Tryz.func122, Tryz.ntmps122
    go_wp2
    go_ret
    exact ⟨by simp [*], HB.out⟩
set_option maxRecDepth 100000 in
set_option maxHeartbeats 6400000 in
theorem rTxt_11 (ca ka na cb kb nb : Int) (s t : ByteArray) (w : World) :
    Calls Tryz.prog 122 #[.agg #[.int .i64 11, .int .i64 ca, .int .i64 ka, .int .i64 na, .string s], .agg #[.int .i64 9, .int .i64 cb, .int .i64 kb, .int .i64 nb, .string t]] w fun e w' => e = .returned (.bool (txtC ⟨11, ca, (ka, na, s)⟩ ⟨9, cb, (kb, nb, t)⟩)) ∧ Below w.heap.size w w' := by
  have HB := Lib.hid (show Below w.heap.size w ((w.alloc (.cells #[.int .i64 11, .int .i64 ca, .int .i64 ka, .int .i64 na, .string s] 42)).alloc (.cells #[.int .i64 9, .int .i64 cb, .int .i64 kb, .int .i64 nb, .string t] 42)) from (bel_mk w _).trans ((bel_mk _ _).mono (by simp)))
  unfold txtC lowO uppO txL txE Va.emp
  dsimp only
  cases hm : t.toList == [] <;> cases hl : Op.bytesLess s.toList t.toList <;> cases he : s.toList == t.toList
  all_goals
    go_enter Tryz.func122, Tryz.ntmps122
    go_wp2
    go_ret
    exact ⟨by simp [*], HB.out⟩
set_option maxRecDepth 100000 in
set_option maxHeartbeats 6400000 in
theorem rTxt_12 (ca ka na cb kb nb : Int) (s t : ByteArray) (w : World) :
    Calls Tryz.prog 122 #[.agg #[.int .i64 11, .int .i64 ca, .int .i64 ka, .int .i64 na, .string s], .agg #[.int .i64 10, .int .i64 cb, .int .i64 kb, .int .i64 nb, .string t]] w fun e w' => e = .returned (.bool (txtC ⟨11, ca, (ka, na, s)⟩ ⟨10, cb, (kb, nb, t)⟩)) ∧ Below w.heap.size w w' := by
  have HB := Lib.hid (show Below w.heap.size w ((w.alloc (.cells #[.int .i64 11, .int .i64 ca, .int .i64 ka, .int .i64 na, .string s] 42)).alloc (.cells #[.int .i64 10, .int .i64 cb, .int .i64 kb, .int .i64 nb, .string t] 42)) from (bel_mk w _).trans ((bel_mk _ _).mono (by simp)))
  unfold txtC lowO uppO txL txE Va.emp
  dsimp only
  cases hl : Op.bytesLess s.toList t.toList <;> cases he : s.toList == t.toList
  all_goals
    go_enter Tryz.func122, Tryz.ntmps122
    go_wp2
    go_ret
    exact ⟨by simp [*], HB.out⟩
set_option maxRecDepth 100000 in
set_option maxHeartbeats 6400000 in
theorem rTxt_13 (ob : Int) (ca ka na cb kb nb : Int) (s t : ByteArray) (w : World) (b7 : ob ≠ 7) (b9 : ob ≠ 9) (b10 : ob ≠ 10) :
    Calls Tryz.prog 122 #[.agg #[.int .i64 11, .int .i64 ca, .int .i64 ka, .int .i64 na, .string s], .agg #[.int .i64 ob, .int .i64 cb, .int .i64 kb, .int .i64 nb, .string t]] w fun e w' => e = .returned (.bool (txtC ⟨11, ca, (ka, na, s)⟩ ⟨ob, cb, (kb, nb, t)⟩)) ∧ Below w.heap.size w w' := by
  have HB := Lib.hid (show Below w.heap.size w ((w.alloc (.cells #[.int .i64 11, .int .i64 ca, .int .i64 ka, .int .i64 na, .string s] 42)).alloc (.cells #[.int .i64 ob, .int .i64 cb, .int .i64 kb, .int .i64 nb, .string t] 42)) from (bel_mk w _).trans ((bel_mk _ _).mono (by simp)))
  unfold txtC lowO uppO txL txE Va.emp
  dsimp only
  have b9c : ¬ ob = 9 := b9
  have b7b : (ob == 7) = false := by rw [beq_eq_false_iff_ne]; exact b7
  have b9b : (ob == 9) = false := by rw [beq_eq_false_iff_ne]; exact b9
  have b10b : (ob == 10) = false := by rw [beq_eq_false_iff_ne]; exact b10
  clear b7 b10 b9
  go_enter Tryz.func122, Tryz.ntmps122
  go_wp2
  go_ret
  exact ⟨by simp [*], HB.out⟩
set_option maxRecDepth 100000 in
set_option maxHeartbeats 6400000 in
theorem rTxt_20 (ca ka na cb kb nb : Int) (s t : ByteArray) (w : World) :
    Calls Tryz.prog 122 #[.agg #[.int .i64 12, .int .i64 ca, .int .i64 ka, .int .i64 na, .string s], .agg #[.int .i64 7, .int .i64 cb, .int .i64 kb, .int .i64 nb, .string t]] w fun e w' => e = .returned (.bool (txtC ⟨12, ca, (ka, na, s)⟩ ⟨7, cb, (kb, nb, t)⟩)) ∧ Below w.heap.size w w' := by
  have HB := Lib.hid (show Below w.heap.size w ((w.alloc (.cells #[.int .i64 12, .int .i64 ca, .int .i64 ka, .int .i64 na, .string s] 42)).alloc (.cells #[.int .i64 7, .int .i64 cb, .int .i64 kb, .int .i64 nb, .string t] 42)) from (bel_mk w _).trans ((bel_mk _ _).mono (by simp)))
  unfold txtC lowO uppO txL txE Va.emp
  dsimp only
  cases hl : Op.bytesLess s.toList t.toList <;> cases he : s.toList == t.toList
  all_goals
    go_enter Tryz.func122, Tryz.ntmps122
    go_wp2
    go_ret
    exact ⟨by simp [*], HB.out⟩
set_option maxRecDepth 100000 in
set_option maxHeartbeats 6400000 in
theorem rTxt_21 (ca ka na cb kb nb : Int) (s t : ByteArray) (w : World) :
    Calls Tryz.prog 122 #[.agg #[.int .i64 12, .int .i64 ca, .int .i64 ka, .int .i64 na, .string s], .agg #[.int .i64 9, .int .i64 cb, .int .i64 kb, .int .i64 nb, .string t]] w fun e w' => e = .returned (.bool (txtC ⟨12, ca, (ka, na, s)⟩ ⟨9, cb, (kb, nb, t)⟩)) ∧ Below w.heap.size w w' := by
  have HB := Lib.hid (show Below w.heap.size w ((w.alloc (.cells #[.int .i64 12, .int .i64 ca, .int .i64 ka, .int .i64 na, .string s] 42)).alloc (.cells #[.int .i64 9, .int .i64 cb, .int .i64 kb, .int .i64 nb, .string t] 42)) from (bel_mk w _).trans ((bel_mk _ _).mono (by simp)))
  unfold txtC lowO uppO txL txE Va.emp
  dsimp only
  cases hm : t.toList == [] <;> cases hl : Op.bytesLess s.toList t.toList <;> cases he : s.toList == t.toList
  all_goals
    go_enter Tryz.func122, Tryz.ntmps122
    go_wp2
    go_ret
    exact ⟨by simp [*], HB.out⟩
set_option maxRecDepth 100000 in
set_option maxHeartbeats 6400000 in
theorem rTxt_22 (ca ka na cb kb nb : Int) (s t : ByteArray) (w : World) :
    Calls Tryz.prog 122 #[.agg #[.int .i64 12, .int .i64 ca, .int .i64 ka, .int .i64 na, .string s], .agg #[.int .i64 10, .int .i64 cb, .int .i64 kb, .int .i64 nb, .string t]] w fun e w' => e = .returned (.bool (txtC ⟨12, ca, (ka, na, s)⟩ ⟨10, cb, (kb, nb, t)⟩)) ∧ Below w.heap.size w w' := by
  have HB := Lib.hid (show Below w.heap.size w ((w.alloc (.cells #[.int .i64 12, .int .i64 ca, .int .i64 ka, .int .i64 na, .string s] 42)).alloc (.cells #[.int .i64 10, .int .i64 cb, .int .i64 kb, .int .i64 nb, .string t] 42)) from (bel_mk w _).trans ((bel_mk _ _).mono (by simp)))
  unfold txtC lowO uppO txL txE Va.emp
  dsimp only
  cases hl : Op.bytesLess s.toList t.toList <;> cases he : s.toList == t.toList
  all_goals
    go_enter Tryz.func122, Tryz.ntmps122
    go_wp2
    go_ret
    exact ⟨by simp [*], HB.out⟩
set_option maxRecDepth 100000 in
set_option maxHeartbeats 6400000 in
theorem rTxt_23 (ob : Int) (ca ka na cb kb nb : Int) (s t : ByteArray) (w : World) (b7 : ob ≠ 7) (b9 : ob ≠ 9) (b10 : ob ≠ 10) :
    Calls Tryz.prog 122 #[.agg #[.int .i64 12, .int .i64 ca, .int .i64 ka, .int .i64 na, .string s], .agg #[.int .i64 ob, .int .i64 cb, .int .i64 kb, .int .i64 nb, .string t]] w fun e w' => e = .returned (.bool (txtC ⟨12, ca, (ka, na, s)⟩ ⟨ob, cb, (kb, nb, t)⟩)) ∧ Below w.heap.size w w' := by
  have HB := Lib.hid (show Below w.heap.size w ((w.alloc (.cells #[.int .i64 12, .int .i64 ca, .int .i64 ka, .int .i64 na, .string s] 42)).alloc (.cells #[.int .i64 ob, .int .i64 cb, .int .i64 kb, .int .i64 nb, .string t] 42)) from (bel_mk w _).trans ((bel_mk _ _).mono (by simp)))
  unfold txtC lowO uppO txL txE Va.emp
  dsimp only
  have b9c : ¬ ob = 9 := b9
  have b7b : (ob == 7) = false := by rw [beq_eq_false_iff_ne]; exact b7
  have b9b : (ob == 9) = false := by rw [beq_eq_false_iff_ne]; exact b9
  have b10b : (ob == 10) = false := by rw [beq_eq_false_iff_ne]; exact b10
  clear b7 b10 b9
  go_enter Tryz.func122, Tryz.ntmps122
  go_wp2
  go_ret
  exact ⟨by simp [*], HB.out⟩
set_option maxRecDepth 100000 in
set_option maxHeartbeats 6400000 in
theorem rTxt_30 (oa : Int) (ca ka na cb kb nb : Int) (s t : ByteArray) (w : World) (a7 : oa ≠ 7) (a11 : oa ≠ 11) (a12 : oa ≠ 12) :
    Calls Tryz.prog 122 #[.agg #[.int .i64 oa, .int .i64 ca, .int .i64 ka, .int .i64 na, .string s], .agg #[.int .i64 7, .int .i64 cb, .int .i64 kb, .int .i64 nb, .string t]] w fun e w' => e = .returned (.bool (txtC ⟨oa, ca, (ka, na, s)⟩ ⟨7, cb, (kb, nb, t)⟩)) ∧ Below w.heap.size w w' := by
  have HB := Lib.hid (show Below w.heap.size w ((w.alloc (.cells #[.int .i64 oa, .int .i64 ca, .int .i64 ka, .int .i64 na, .string s] 42)).alloc (.cells #[.int .i64 7, .int .i64 cb, .int .i64 kb, .int .i64 nb, .string t] 42)) from (bel_mk w _).trans ((bel_mk _ _).mono (by simp)))
  unfold txtC lowO uppO txL txE Va.emp
  dsimp only
  have a7b : (oa == 7) = false := by rw [beq_eq_false_iff_ne]; exact a7
  have a11b : (oa == 11) = false := by rw [beq_eq_false_iff_ne]; exact a11
  have a12b : (oa == 12) = false := by rw [beq_eq_false_iff_ne]; exact a12
  clear a7 a11 a12
  go_enter Tryz.func122, Tryz.ntmps122
  go_wp2
  go_ret
  exact ⟨by simp [*], HB.out⟩
set_option maxRecDepth 100000 in
set_option maxHeartbeats 6400000 in
theorem rTxt_31 (oa : Int) (ca ka na cb kb nb : Int) (s t : ByteArray) (w : World) (a7 : oa ≠ 7) (a11 : oa ≠ 11) (a12 : oa ≠ 12) :
    Calls Tryz.prog 122 #[.agg #[.int .i64 oa, .int .i64 ca, .int .i64 ka, .int .i64 na, .string s], .agg #[.int .i64 9, .int .i64 cb, .int .i64 kb, .int .i64 nb, .string t]] w fun e w' => e = .returned (.bool (txtC ⟨oa, ca, (ka, na, s)⟩ ⟨9, cb, (kb, nb, t)⟩)) ∧ Below w.heap.size w w' := by
  have HB := Lib.hid (show Below w.heap.size w ((w.alloc (.cells #[.int .i64 oa, .int .i64 ca, .int .i64 ka, .int .i64 na, .string s] 42)).alloc (.cells #[.int .i64 9, .int .i64 cb, .int .i64 kb, .int .i64 nb, .string t] 42)) from (bel_mk w _).trans ((bel_mk _ _).mono (by simp)))
  unfold txtC lowO uppO txL txE Va.emp
  dsimp only
  have a7b : (oa == 7) = false := by rw [beq_eq_false_iff_ne]; exact a7
  have a11b : (oa == 11) = false := by rw [beq_eq_false_iff_ne]; exact a11
  have a12b : (oa == 12) = false := by rw [beq_eq_false_iff_ne]; exact a12
  clear a7 a11 a12
  cases hm : t.toList == []
  all_goals
    go_enter Tryz.func122, Tryz.ntmps122
    go_wp2
    go_ret
    exact ⟨by simp [*], HB.out⟩
set_option maxRecDepth 100000 in
set_option maxHeartbeats 6400000 in
theorem rTxt_32 (oa : Int) (ca ka na cb kb nb : Int) (s t : ByteArray) (w : World) (a7 : oa ≠ 7) (a11 : oa ≠ 11) (a12 : oa ≠ 12) :
    Calls Tryz.prog 122 #[.agg #[.int .i64 oa, .int .i64 ca, .int .i64 ka, .int .i64 na, .string s], .agg #[.int .i64 10, .int .i64 cb, .int .i64 kb, .int .i64 nb, .string t]] w fun e w' => e = .returned (.bool (txtC ⟨oa, ca, (ka, na, s)⟩ ⟨10, cb, (kb, nb, t)⟩)) ∧ Below w.heap.size w w' := by
  have HB := Lib.hid (show Below w.heap.size w ((w.alloc (.cells #[.int .i64 oa, .int .i64 ca, .int .i64 ka, .int .i64 na, .string s] 42)).alloc (.cells #[.int .i64 10, .int .i64 cb, .int .i64 kb, .int .i64 nb, .string t] 42)) from (bel_mk w _).trans ((bel_mk _ _).mono (by simp)))
  unfold txtC lowO uppO txL txE Va.emp
  dsimp only
  have a7b : (oa == 7) = false := by rw [beq_eq_false_iff_ne]; exact a7
  have a11b : (oa == 11) = false := by rw [beq_eq_false_iff_ne]; exact a11
  have a12b : (oa == 12) = false := by rw [beq_eq_false_iff_ne]; exact a12
  clear a7 a11 a12
  go_enter Tryz.func122, Tryz.ntmps122
  go_wp2
  go_ret
  exact ⟨by simp [*], HB.out⟩
set_option maxRecDepth 100000 in
set_option maxHeartbeats 6400000 in
theorem rTxt_33 (oa : Int) (ob : Int) (ca ka na cb kb nb : Int) (s t : ByteArray) (w : World) (a7 : oa ≠ 7) (a11 : oa ≠ 11) (a12 : oa ≠ 12) (b7 : ob ≠ 7) (b9 : ob ≠ 9) (b10 : ob ≠ 10) :
    Calls Tryz.prog 122 #[.agg #[.int .i64 oa, .int .i64 ca, .int .i64 ka, .int .i64 na, .string s], .agg #[.int .i64 ob, .int .i64 cb, .int .i64 kb, .int .i64 nb, .string t]] w fun e w' => e = .returned (.bool (txtC ⟨oa, ca, (ka, na, s)⟩ ⟨ob, cb, (kb, nb, t)⟩)) ∧ Below w.heap.size w w' := by
  have HB := Lib.hid (show Below w.heap.size w ((w.alloc (.cells #[.int .i64 oa, .int .i64 ca, .int .i64 ka, .int .i64 na, .string s] 42)).alloc (.cells #[.int .i64 ob, .int .i64 cb, .int .i64 kb, .int .i64 nb, .string t] 42)) from (bel_mk w _).trans ((bel_mk _ _).mono (by simp)))
  unfold txtC lowO uppO txL txE Va.emp
  dsimp only
  have a7b : (oa == 7) = false := by rw [beq_eq_false_iff_ne]; exact a7
  have a11b : (oa == 11) = false := by rw [beq_eq_false_iff_ne]; exact a11
  have a12b : (oa == 12) = false := by rw [beq_eq_false_iff_ne]; exact a12
  clear a7 a11 a12
  have b9c : ¬ ob = 9 := b9
  have b7b : (ob == 7) = false := by rw [beq_eq_false_iff_ne]; exact b7
  have b9b : (ob == 9) = false := by rw [beq_eq_false_iff_ne]; exact b9
  have b10b : (ob == 10) = false := by rw [beq_eq_false_iff_ne]; exact b10
  clear b7 b10 b9
  go_enter Tryz.func122, Tryz.ntmps122
  go_wp2
  go_ret
  exact ⟨by simp [*], HB.out⟩
theorem rTxt_any (a b : Cnd) (w : World) :
    Calls Tryz.prog 122 #[.agg #[.int .i64 a.op, .int .i64 a.col, .int .i64 a.v.1, .int .i64 a.v.2.1, .string a.v.2.2], .agg #[.int .i64 b.op, .int .i64 b.col, .int .i64 b.v.1, .int .i64 b.v.2.1, .string b.v.2.2]] w fun e w' => e = .returned (.bool (txtC a b)) ∧ Below w.heap.size w w' := by
  obtain ⟨oa, ca, ka, na, s⟩ := a
  obtain ⟨ob, cb, kb, nb, t⟩ := b
  dsimp only
  by_cases a7 : oa = 7
  · subst a7
    by_cases b7 : ob = 7
    · subst b7; exact rTxt_00 ca ka na cb kb nb s t w
    by_cases b9 : ob = 9
    · subst b9; exact rTxt_01 ca ka na cb kb nb s t w
    by_cases b10 : ob = 10
    · subst b10; exact rTxt_02 ca ka na cb kb nb s t w
    exact rTxt_03 ob ca ka na cb kb nb s t w b7 b9 b10
  by_cases a11 : oa = 11
  · subst a11
    by_cases b7 : ob = 7
    · subst b7; exact rTxt_10 ca ka na cb kb nb s t w
    by_cases b9 : ob = 9
    · subst b9; exact rTxt_11 ca ka na cb kb nb s t w
    by_cases b10 : ob = 10
    · subst b10; exact rTxt_12 ca ka na cb kb nb s t w
    exact rTxt_13 ob ca ka na cb kb nb s t w b7 b9 b10
  by_cases a12 : oa = 12
  · subst a12
    by_cases b7 : ob = 7
    · subst b7; exact rTxt_20 ca ka na cb kb nb s t w
    by_cases b9 : ob = 9
    · subst b9; exact rTxt_21 ca ka na cb kb nb s t w
    by_cases b10 : ob = 10
    · subst b10; exact rTxt_22 ca ka na cb kb nb s t w
    exact rTxt_23 ob ca ka na cb kb nb s t w b7 b9 b10
  by_cases b7 : ob = 7
  · subst b7; exact rTxt_30 oa ca ka na cb kb nb s t w a7 a11 a12
  by_cases b9 : ob = 9
  · subst b9; exact rTxt_31 oa ca ka na cb kb nb s t w a7 a11 a12
  by_cases b10 : ob = 10
  · subst b10; exact rTxt_32 oa ca ka na cb kb nb s t w a7 a11 a12
  exact rTxt_33 oa ob ca ka na cb kb nb s t w a7 a11 a12 b7 b9 b10
end Go.Proofs.YthnmcpfmljibeaaGreat
