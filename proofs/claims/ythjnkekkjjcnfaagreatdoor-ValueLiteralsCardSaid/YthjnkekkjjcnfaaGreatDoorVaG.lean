/-
  Values: writing and reading literals: what the program's functions answer, in every world whose tables lie as the rows say. Conditions: none.
-/
import Derived.Test.YthjnkekkjjcnfaaGreatDoorVaF
import Derived.Test.YthjnkekkjjcnfaaGreatDoorVaN
import Derived.Lib.SmallJoins
import Derived.Lib.AppendIntMem
import Derived.Lib.ItoaLen
import Derived.Shelf.Strings.SlTrimAscii
import Derived.WalkKit
import Derived.WalkSpells
import Derived.WalkLawsBesides
import Derived.Deep.QuietTactic
import Derived.BigQuiet
import Derived.Handy
import Derived.Lib.Hide
namespace Go.Proofs.YthjnkekkjjcnfaaGreatDoor
open Go.RowKit

/-- The table of powers of ten and the error variable read as the program's text lays them; the search's number is some int; the variables lie below the heap's end. -/
structure Env (w : World) : Prop where
  low : Tryz.prog.globals.size ≤ w.heap.size
  tab : Lib.TabIs Tryz.prog w "internal/strconv.uint64pow10" .u64 Lib.pow10Tab
  cut : ∃ m : Int, w.cell? ⟨0, 0, none⟩ = some (.int .i64 m)
  rng : ∃ ev : Value, w.cell? ⟨2, 0, none⟩ = some ev ∧ (ev = .nilIface ∨ ∃ te pe, ev = .iface te pe)
theorem globalsSize : Tryz.prog.globals.size = 8 := by kernel_rfl
theorem Env.less {w : World} (h : Env w) {g : Nat} (hg : g < Tryz.prog.globals.size) : g < w.heap.size := Nat.lt_of_lt_of_le hg h.low
theorem Env.step {w w' : World} (h : Env w) (hb : Below w.heap.size w w') : Env w' :=
  ⟨Nat.le_trans h.low hb.size, Lib.tabBelow_of_tabIs h.tab w' hb, by
    obtain ⟨m, hm⟩ := h.cut
    exact ⟨m, by rw [hb.cell (p := ⟨0, 0, none⟩) (h.less (by rw [globalsSize]; decide))]; exact hm⟩, by
    obtain ⟨ev, hm, h2⟩ := h.rng
    exact ⟨ev, by rw [hb.cell (p := ⟨2, 0, none⟩) (h.less (by rw [globalsSize]; decide))]; exact hm, h2⟩⟩

theorem itoa_any (n : Int) (w : World) (h : Env w) (h0 : -9223372036854775808 ≤ n) (h1 : n ≤ 9223372036854775807) :
    Calls Tryz.prog 58 #[.int .i64 n] w fun e w' => e = .returned (.string ⟨(Lib.itoa n).toArray⟩) ∧ Below w.heap.size w w' :=
  (Tryz.strconv_Itoa n h0 h1 w h.tab).mono fun _ _ ⟨he, k, os, hw⟩ => ⟨he, by rw [hw]; exact Lib.below_grow _ _ (Nat.le_refl _) _ _⟩
theorem size_toArray (l : List UInt8) : (ByteArray.mk l.toArray).size = l.length := by rw [Lib.size_eq]
theorem mk_toList (s : ByteArray) : ByteArray.mk s.data.toList.toArray = s := by
  obtain ⟨⟨l⟩⟩ := s; rfl
theorem cat3 (l : List UInt8) : (ByteArray.mk #[39] ++ ByteArray.mk l.toArray ++ ByteArray.mk #[39]) = ByteArray.mk ([39] ++ l ++ [39]).toArray := by
  rw [show (#[39] : Array UInt8) = [39].toArray from rfl]
  simp only [ByteArray.mk_append_mk]
theorem countB_le2 (s : ByteArray) (sep : ByteArray) (h1 : 1 ≤ sep.size) : Lib.countB s sep ≤ s.size := Lib.countB_le sep h1 s.size s (Nat.le_refl _)
theorem mul_two_le {a b c : Nat} (hb : b ≤ 2) (ha : a ≤ c) : a * b ≤ 2 * c := by
  have := Nat.mul_le_mul ha hb; omega
theorem replace_any (s old new : ByteArray) (w : World) (h : Env w) (hs : s.size ≤ 4194304) (h1 : 1 ≤ old.size) (h2 : new.size ≤ 2) :
    Calls Tryz.prog 68 #[.string s, .string old, .string new] w fun e w' => e = .returned (.string ⟨(Lib.replaceAll s.data.toList old.data.toList new.data.toList).toArray⟩) ∧ Below w.heap.size w w' := by
  obtain ⟨m, hm⟩ := h.cut
  have := mul_two_le h2 (countB_le2 s old h1)
  exact Tryz.strings_ReplaceAll s old new m w (by omega) hm h1 (by omega)
set_option maxHeartbeats 400000 in
theorem quoted_any (s : ByteArray) (w : World) (h : Env w) (hs : s.size ≤ 4194304) :
    Calls Tryz.prog 57 #[.string s] w fun e w' => e = .returned (.string ⟨(quo s.data.toList).toArray⟩) ∧ Below w.heap.size w w' := by
  have hR := replace_any s ⟨#[39]⟩ ⟨#[39, 39]⟩ w h hs (by decide) (by decide)
  have hl := (dbl_len s.data.toList).1
  rw [← Lib.size_eq] at hl
  have e1 : Lib.replaceAll s.data.toList (ByteArray.mk #[39]).data.toList (ByteArray.mk #[39, 39]).data.toList = dbl s.data.toList := all_dbl _
  rw [e1] at hR
  have hq : quo s.data.toList = [39] ++ dbl s.data.toList ++ [39] := rfl
  rw [hq]
  generalize dbl s.data.toList = d at *
  have hd : (ByteArray.mk d.toArray).size ≤ 8388608 := by rw [size_toArray]; omega
  go_enter Tryz.func57, Tryz.ntmps57
  go_wp2_with (go_at_call 68; refine hR.mono ?_; rintro e w1 ⟨rfl, hb⟩)
  go_ret
  refine ⟨ret_str (cat3 _), ?_⟩
  (repeat' (first | (with_reducible exact Below.refl _ _) | (with_reducible assumption) | (with_reducible refine Below.alloc ?_ ?_ _) | (with_reducible refine Below.drew ?_) | (with_reducible refine Below.setCell ?_ ?_ _) | (with_reducible refine Below.trans ?_ (Below.mono (by assumption) ?_)) | go_size))
/-- The literal of a value. -/
def litV (k n : Int) (s : ByteArray) : List UInt8 :=
  if vldV k n s then (if k = 0 then [78, 85, 76, 76] else if k = 3 then (if n = 1 then [84, 82, 85, 69] else [70, 65, 76, 83, 69]) else if k = 2 then quo s.data.toList else Lib.itoa n) else []
theorem vld_kind {k n : Int} {s : ByteArray} (h : vldV k n s = true) : (k = 0 ∧ n = 0 ∧ s.toList = []) ∨ (k = 1 ∧ -1125899906842624 ≤ n ∧ n ≤ 1125899906842624 ∧ s.toList = []) ∨ (k = 2 ∧ n = 0 ∧ s.size ≤ 200 ∧ prnL s.data.toList = true) ∨ (k = 3 ∧ (n = 0 ∨ n = 1) ∧ s.toList = []) := by
  unfold vldV emp at h
  by_cases h0 : k = 0
  · rw [if_pos h0] at h; simp only [Bool.and_eq_true, decide_eq_true_eq, beq_iff_eq] at h; exact .inl ⟨h0, h.1, h.2⟩
  rw [if_neg h0] at h
  by_cases h1 : k = 1
  · rw [if_pos h1] at h; simp only [Bool.and_eq_true, decide_eq_true_eq, beq_iff_eq] at h; exact .inr (.inl ⟨h1, h.1.1, h.1.2, h.2⟩)
  rw [if_neg h1] at h
  by_cases h2 : k = 2
  · rw [if_pos h2] at h; simp only [Bool.and_eq_true, decide_eq_true_eq] at h; exact .inr (.inr (.inl ⟨h2, h.1.1, h.1.2, h.2⟩))
  rw [if_neg h2] at h
  by_cases h3 : k = 3
  · rw [if_pos h3] at h; simp only [Bool.and_eq_true, Bool.or_eq_true, decide_eq_true_eq, beq_iff_eq] at h; exact .inr (.inr (.inr ⟨h3, h.1, h.2⟩))
  rw [if_neg h3] at h; cases h
theorem nil_of_toList {s : ByteArray} (h : s.toList = []) : s = ⟨#[]⟩ := by
  rw [Lib.toList_data] at h
  obtain ⟨⟨l⟩⟩ := s
  simp at h; subst h; rfl
/-! ### numbers -/
theorem trimP_any (s : ByteArray) (w : World) :
    Calls Tryz.prog 67 #[.string s, .string ⟨#[45]⟩] w fun e w' => e = .returned (.string ⟨(absL s.data.toList).toArray⟩) ∧ w' = w := by
  have h := Tryz.strings_TrimPrefix s ⟨#[45]⟩ w
  rw [show (ByteArray.mk #[45]).data.toList = [45] from rfl, absL_prefix] at h
  exact h
theorem trim_any (s : ByteArray) (w : World) (hs : s.size ≤ 9223372036854775807) :
    Calls Tryz.prog 78 #[.string s, .string ⟨#[48, 49, 50, 51, 52, 53, 54, 55, 56, 57]⟩] w fun e w' => e = .returned (.string ⟨(Lib.trimS s.data.toList digs).toArray⟩) ∧ Below w.heap.size w w' :=
  Any.strings_Trim_laid Tryz.lays160 (by kernel_rfl) s ⟨#[48, 49, 50, 51, 52, 53, 54, 55, 56, 57]⟩ w hs (by decide) (ascii_of_all (by decide))
theorem absL_len (s : List UInt8) : (absL s).length ≤ s.length := by
  unfold absL; split
  · rw [List.length_tail]; omega
  · exact Nat.le_refl _
set_option maxHeartbeats 800000 in
theorem isNumber_any (s : ByteArray) (w : World) (hs : s.size ≤ 9223372036854775806) :
    Calls Tryz.prog 69 #[.string s] w fun e w' => e = .returned (.bool (numG s.data.toList)) ∧ Below w.heap.size w w' := by
  have hT := fun W => trimP_any s W
  have hl := absL_len s.data.toList
  rw [← Lib.size_eq] at hl
  rw [numG_prog]
  have hP := fun W => Tryz.strings_HasPrefix ⟨(absL s.data.toList).toArray⟩ ⟨#[48]⟩ W
  have hM := fun W => trim_any ⟨(absL s.data.toList).toArray⟩ W (by rw [size_toArray]; omega)
  rw [show [(48 : UInt8)] = (ByteArray.mk #[48]).data.toList from rfl]
  generalize absL s.data.toList = a at *
  have e0 : ((ByteArray.mk a.toArray).toList == []) = a.isEmpty := by
    rw [Lib.toList_data]; cases a <;> rfl
  have e1 : (s.toList == [48]) = (s.data.toList == (ByteArray.mk #[48]).data.toList) := by rw [Lib.toList_data]
  rw [← e1]
  generalize Lib.trimS a digs = t at *
  have e2 : (t == []) = t.isEmpty := by cases t <;> rfl
  rw [e2]
  clear e1 e2
  cases hp : Lib.hasPrefix a (ByteArray.mk #[48]).data.toList
  · rw [hp] at hP
    simp only [Bool.false_eq_true, if_false]
    cases he : a.isEmpty <;> rw [he] at e0
    · cases ht : t.isEmpty
      all_goals
        go_enter Tryz.func69, Tryz.ntmps69
        go_wp2_with fail
        refine (hT _).mono ?_
        rintro e w1 ⟨rfl, rfl⟩
        go_wp2_with fail
        refine (hP _).mono ?_
        rintro e w1 ⟨rfl, rfl⟩
        go_wp2_with fail
        refine (hM _).mono ?_
        rintro e w1 ⟨rfl, hb⟩
        go_wp2
        go_ret
        refine ⟨rfl, ?_⟩
        (repeat' (first | (with_reducible exact Below.refl _ _) | (with_reducible assumption) | (with_reducible refine Below.alloc ?_ ?_ _) | (with_reducible refine Below.drew ?_) | (with_reducible refine Below.setCell ?_ ?_ _) | (with_reducible refine Below.trans ?_ (Below.mono (by assumption) ?_)) | go_size))
    · go_enter Tryz.func69, Tryz.ntmps69
      go_wp2_with fail
      refine (hT _).mono ?_
      rintro e w1 ⟨rfl, rfl⟩
      go_wp2_with fail
      refine (hP _).mono ?_
      rintro e w1 ⟨rfl, rfl⟩
      go_wp2
      go_ret
      refine ⟨rfl, ?_⟩
      (repeat' (first | (with_reducible exact Below.refl _ _) | (with_reducible assumption) | (with_reducible refine Below.alloc ?_ ?_ _) | (with_reducible refine Below.drew ?_) | (with_reducible refine Below.setCell ?_ ?_ _) | (with_reducible refine Below.trans ?_ (Below.mono (by assumption) ?_)) | go_size))
  · rw [hp] at hP
    rw [if_pos rfl]
    cases hz : s.toList == [48]
    all_goals
      go_enter Tryz.func69, Tryz.ntmps69
      go_wp2_with fail
      refine (hT _).mono ?_
      rintro e w1 ⟨rfl, rfl⟩
      go_wp2_with fail
      refine (hP _).mono ?_
      rintro e w1 ⟨rfl, rfl⟩
      go_wp2
      go_ret
      refine ⟨rfl, ?_⟩
      (repeat' (first | (with_reducible exact Below.refl _ _) | (with_reducible assumption) | (with_reducible refine Below.alloc ?_ ?_ _) | (with_reducible refine Below.drew ?_) | (with_reducible refine Below.setCell ?_ ?_ _) | (with_reducible refine Below.trans ?_ (Below.mono (by assumption) ?_)) | go_size))
/-- How Atoi ends on a number: what it returns. -/
def atoV (s : List UInt8) (v : Value) : Prop := (-9223372036854775808 ≤ sgnV s ∧ sgnV s ≤ 9223372036854775807 ∧ v = .tuple #[.int .i64 (sgnV s), .nilIface]) ∨ ((sgnV s < -9223372036854775808 ∨ 9223372036854775807 < sgnV s) ∧ ∃ (n : Int) (t : TypeId) (p : Value), v = .tuple #[.int .i64 n, .iface t p])
theorem atoi_any (s : ByteArray) (w : World) (h : Env w) (hs : s.size ≤ 281474976710656) (hg : numG s.data.toList = true) :
    Calls Tryz.prog 70 #[.string s] w fun e w' => (∃ v, atoV s.data.toList v ∧ e = .returned v) ∧ Below w.heap.size w w' := by
  rcases atoi_num hg with ⟨h1, h2, h3⟩ | ⟨h1, h2⟩
  · refine (Tryz.strconv_Atoi_ok s (by omega) _ h1 w).mono fun e w' ⟨he, hw⟩ => ⟨⟨_, .inl ⟨h2, h3, rfl⟩, he⟩, ?_⟩
    rcases hw with rfl | ⟨t, rfl⟩
    · exact Below.refl _ _
    · exact Go.Joins.below_bytesWorld _ _ _ _ (Nat.le_refl _)
  · obtain ⟨ev, hv, hev⟩ := h.rng
    refine (Tryz.strconv_Atoi_range s hs h1 ev w hv hev).mono fun e w' ⟨N, he, _, _, hb⟩ => ⟨⟨_, .inr ⟨h2, _, _, _, rfl⟩, he⟩, hb⟩
end Go.Proofs.YthjnkekkjjcnfaaGreatDoor
