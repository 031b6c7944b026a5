/-
  Contracts of the reference's in and Relation. Conditions: none.
-/
import Derived.Test.YtmmecpmeemhglaaDoorList
import Derived.Test.YtmmecpmeemhglaaDoorAl5
import Derived.Test.YtmmecpmeemhglaaDoorTabM
import Derived.Test.YtmmecpmeemhglaaDoorBlk
import Derived.WalkKit
import Derived.WalkSpells
import Derived.WalkLawsBesides
import Derived.Deep.QuietTactic
import Derived.BigQuiet
import Derived.Handy
import Derived.Lib.Hide
namespace Go.Proofs.YtmmecpmeemhglaaDoor
open Go.RowKit

set_option maxRecDepth 100000 in
set_option maxHeartbeats 800000 in
theorem rin_any (v : Value) (l : List Int) (x : Int) (w : World) (L : Nat) (hv : RdI w L w.heap.size v l) :
    Calls Tryd.prog 47 #[v, .int .i64 x] w fun e w' => e = .returned (.bool (decide (x ∈ l))) ∧ Below w.heap.size w w' := by
  have hv0 := hv
  obtain ⟨A, c, rfl, hl, _⟩ := hv
  go_enter Tryd.func47, Tryd.ntmps47
  go_wp2
  go_loopw [5] (fun i wr => ∃ k : Nat, k ≤ l.length ∧ i = .int .i64 k ∧ x ∉ l.take k ∧ w = wr) (fun i _ => l.length - (intOf i).toNat)
  case atStart => exact ⟨0, by omega, rfl, by simp, rfl⟩
  case round =>
    obtain ⟨k, hk, rfl, hno, rfl⟩ := hrel
    by_cases hlt : k < l.length
    · have hx := List.getElem?_eq_getElem hlt
      generalize l[k] = y at hx
      obtain ⟨ad, rfl, _, _, c1⟩ := hv0.at hx
      by_cases hxy : y = x
      · subst hxy
        have hbn : (y == y) = true := by simp
        have HM : Hid (decide (y ∈ l) = true) := Lib.hid (decide_eq_true (List.mem_of_getElem? hx))
        go_wp2
        go_ret
        exact ⟨congrArg (fun b => Ending.returned (.bool b)) HM.out.symm, Below.refl _ _⟩
      · have hbn : (y == x) = false := by simp [hxy]
        have hT : x ∉ l.take (k + 1) := by
          obtain ⟨_, e1⟩ := List.getElem?_eq_some_iff.1 hx
          rw [List.take_succ_eq_append_getElem hlt, List.mem_append, e1]
          simp [Ne.symm hxy, hno]
        have HT := Lib.hid hT
        clear hT
        go_wp2
        go_roundw
        case rel => exact ⟨k + 1, by omega, by go_num, HT.out, by first | trivial | rfl⟩
        case measure => simp [intOf]; omega
    · have hkl : k = l.length := by omega
      subst hkl
      rw [List.take_length] at hno
      have HM : Hid (decide (x ∈ l) = false) := Lib.hid (decide_eq_false hno)
      clear hno
      go_wp2
      go_ret
      exact ⟨congrArg (fun b => Ending.returned (.bool b)) HM.out.symm, Below.refl _ _⟩

set_option maxRecDepth 100000 in
set_option maxHeartbeats 1600000 in
theorem rrel_any (a b c d : Int) (w : World) :
    Calls Tryd.prog 46 #[.agg #[.int .i64 a, .int .i64 b], .agg #[.int .i64 c, .int .i64 d]] w fun e w' => e = .returned (.tuple #[.int .i64 (relR a b c d), .bool (bothV a b c d)]) ∧ Below w.heap.size w w' := by
  have oP : Own ((w.alloc (.cells #[.int .i64 a, .int .i64 b] 23)).alloc (.cells #[.int .i64 c, .int .i64 d] 23)) w.heap.size 23 #[.int .i64 a, .int .i64 b] := (Own.new w _ _).alloc _
  have oQ : Own ((w.alloc (.cells #[.int .i64 a, .int .i64 b] 23)).alloc (.cells #[.int .i64 c, .int .i64 d] 23)) (w.heap.size + 1) 23 #[.int .i64 c, .int .i64 d] := (by have := Own.new (w.alloc (.cells #[.int .i64 a, .int .i64 b] 23)) 23 #[.int .i64 c, .int .i64 d]; rw [World.size_alloc] at this; exact this)
  have oB : Below w.heap.size w ((w.alloc (.cells #[.int .i64 a, .int .i64 b] 23)).alloc (.cells #[.int .i64 c, .int .i64 d] 23)) := (by (repeat' (first | (with_reducible exact Below.refl _ _) | (with_reducible assumption) | (with_reducible refine Below.alloc ?_ ?_ _) | (with_reducible refine Below.drew ?_) | (with_reducible refine Below.setCell ?_ ?_ _) | (with_reducible refine Below.trans ?_ (Below.mono (by assumption) ?_)) | go_size)))
  have lr := relR_lt a b c d
  go_enter Tryd.func46, Tryd.ntmps46
  go_wp2
  generalize (w.alloc (.cells #[.int .i64 a, .int .i64 b] 23)).alloc (.cells #[.int .i64 c, .int .i64 d] 23) = W at *
  go_loopw [6] (fun i wr => ∃ k : Nat, k ≤ 13 ∧ i = .int .i64 k ∧ (bothV a b c d = true → (k : Int) ≤ relR a b c d) ∧ Own wr w.heap.size 23 #[.int .i64 a, .int .i64 b] ∧ Own wr (w.heap.size + 1) 23 #[.int .i64 c, .int .i64 d] ∧ Below w.heap.size w wr) (fun i _ => 13 - (intOf i).toNat)
  case atStart => exact ⟨0, by omega, rfl, fun _ => lr.1, oP, oQ, oB⟩
  case round =>
    obtain ⟨k, hk, rfl, hno, P, Q, hbr⟩ := hrel
    have hbz := hbr.size
    by_cases hlt : k < 13
    · have p0 := P.cell 0
      have p1 := P.cell 1
      have q0 := Q.cell 0
      have q1 := Q.cell 1
      have HR := rholds_any (k : Int) a b c d
      cases hh : holdsR (k : Int) a b c d
      · have hno2 : Hid (bothV a b c d = true → ((k + 1 : Nat) : Int) ≤ relR a b c d) := Lib.hid (fun hb => by
          have h1 := hno hb
          unfold holdsR at hh
          rw [hb, Bool.true_and] at hh
          have h2 := beq_eq_false_iff_ne.1 hh
          omega)
        rw [hh] at HR
        clear hno hh
        go_wp2_with (go_at_call 11; refine (HR _).mono ?_; rintro e w1 ⟨rfl, hb1⟩)
        go_roundw
        case rel => exact ⟨k + 1, by omega, by go_num, hno2.out, P.below hb1 P.lt, Q.below hb1 Q.lt, hbr.trans (hb1.mono hbz)⟩
        case measure => simp [intOf]; omega
      · have hE : Hid ((relR a b c d = (k : Int)) ∧ bothV a b c d = true) := Lib.hid (by
          unfold holdsR at hh
          rw [Bool.and_eq_true] at hh
          exact ⟨beq_iff_eq.1 hh.2, hh.1⟩)
        rw [hh] at HR
        clear hno hh
        go_wp2_with (go_at_call 11; refine (HR _).mono ?_; rintro e w1 ⟨rfl, hb1⟩)
        go_ret2
        exact ⟨by rw [hE.out.1, hE.out.2]; rfl, hbr.trans (hb1.mono hbz)⟩
    · have hkl : k = 13 := by omega
      subst hkl
      have hE : Hid ((relR a b c d = 0) ∧ bothV a b c d = false) := Lib.hid (by
        have hbv : bothV a b c d = false := by
          cases hb : bothV a b c d
          · rfl
          · have := hno hb; omega
        exact ⟨by unfold relR; rw [hbv]; rfl, hbv⟩)
      clear hno
      go_wp2
      go_ret2
      exact ⟨by rw [hE.out.1, hE.out.2]; rfl, hbr⟩
end Go.Proofs.YtmmecpmeemhglaaDoor
