/-
  Contracts of the sets of relations: a set is a number whose bits are its members. Conditions: the numbers are below 2^13, a member below 13.
-/
import Derived.Test.YtmmecpmeemhglaaDoorAl1
import Derived.Laws.BitsAllLaws
import Derived.WalkKit
import Derived.WalkSpells
import Derived.WalkLawsBesides
import Derived.Deep.QuietTactic
import Derived.BigQuiet
import Derived.Handy
import Derived.Lib.Hide
namespace Go.Proofs.YtmmecpmeemhglaaDoor
open Go.RowKit

theorem pow13 (r : Nat) (hr : r < 13) : IntKind.u16.wrap ((2 : Int) ^ r) = ((2 ^ r : Nat) : Int) :=
  (by decide : ∀ r : Fin 13, IntKind.u16.wrap ((2 : Int) ^ r.val) = ((2 ^ r.val : Nat) : Int)) ⟨r, hr⟩
theorem pow_lt (r : Nat) (hr : r < 13) : 2 ^ r < 8192 := (by decide : ∀ r : Fin 13, 2 ^ r.val < 8192) ⟨r, hr⟩
theorem ret_set {x y : Int} (h : x = y) : Ending.returned (.agg #[.int .u16 x]) = Ending.returned (.agg #[.int .u16 y]) := by rw [h]
theorem or_lt {x y : Nat} (hx : x < 8192) (hy : y < 8192) : x ||| y < 8192 := Nat.or_lt_two_pow (n := 13) hx hy
theorem and_lt {x : Nat} (y : Nat) (hx : x < 8192) : x &&& y < 8192 := Nat.lt_of_le_of_lt Nat.and_le_left hx

set_option maxHeartbeats 400000 in
theorem union_any (x y : Nat) (w : World) (hx : x < 8192) (hy : y < 8192) :
    Calls Tryd.prog 62 #[.agg #[.int .u16 x], .agg #[.int .u16 y]] w fun e w' => e = .returned (.agg #[.int .u16 ((x ||| y : Nat) : Int)]) ∧ Below w.heap.size w w' := by
  have HE := Lib.hid (u16_or_nat x y (by omega) (by omega))
  go_enter Tryd.func62, Tryd.ntmps62
  go_wp2
  refine bodyPost_ret (v := .agg #[.int .u16 (bits .or .u16 x y)]) (by simp [results, Tryd.results62, go_sem]) rfl ⟨ret_set HE.out, ?_⟩
  (repeat' (first | (with_reducible exact Below.refl _ _) | (with_reducible assumption) | (with_reducible refine Below.alloc ?_ ?_ _) | (with_reducible refine Below.drew ?_) | (with_reducible refine Below.setCell ?_ ?_ _) | (with_reducible refine Below.trans ?_ (Below.mono (by assumption) ?_)) | go_size))

set_option maxHeartbeats 400000 in
theorem inter_any (x y : Nat) (w : World) (hx : x < 8192) (hy : y < 8192) :
    Calls Tryd.prog 55 #[.agg #[.int .u16 x], .agg #[.int .u16 y]] w fun e w' => e = .returned (.agg #[.int .u16 ((x &&& y : Nat) : Int)]) ∧ Below w.heap.size w w' := by
  have HE := Lib.hid (u16_and_nat x y (by omega) (by omega))
  go_enter Tryd.func55, Tryd.ntmps55
  go_wp2
  refine bodyPost_ret (v := .agg #[.int .u16 (bits .and .u16 x y)]) (by simp [results, Tryd.results55, go_sem]) rfl ⟨ret_set HE.out, ?_⟩
  (repeat' (first | (with_reducible exact Below.refl _ _) | (with_reducible assumption) | (with_reducible refine Below.alloc ?_ ?_ _) | (with_reducible refine Below.drew ?_) | (with_reducible refine Below.setCell ?_ ?_ _) | (with_reducible refine Below.trans ?_ (Below.mono (by assumption) ?_)) | go_size))

theorem and_pow (x r : Nat) : x &&& 2 ^ r = if x.testBit r then 2 ^ r else 0 := by
  apply Nat.eq_of_testBit_eq
  intro i
  rw [Nat.testBit_and, Nat.testBit_two_pow]
  by_cases h : r = i
  · subst h
    cases hx : x.testBit r <;> simp
  · rw [decide_eq_false h, Bool.and_false]
    cases x.testBit r
    · simp
    · simp [h]
theorem has_bit (x r : Nat) (hx : x < 8192) (hr : r < 13) : (bits BinOp.and IntKind.u16 (x : Int) (IntKind.u16.wrap ((2 : Int) ^ r)) != 0) = x.testBit r := by
  have hp := pow_lt r hr
  rw [pow13 r hr, u16_and_nat x (2 ^ r) (by omega) (by omega), and_pow]
  have hpos : 0 < 2 ^ r := Nat.two_pow_pos r
  cases x.testBit r
  · rfl
  · rw [if_pos rfl]
    exact bne_iff_ne.2 (by omega)
set_option maxHeartbeats 400000 in
theorem has_any (x r : Nat) (w : World) (hx : x < 8192) (hr : r < 13) :
    Calls Tryd.prog 51 #[.agg #[.int .u16 x], .int .i64 r] w fun e w' => e = .returned (.bool (x.testBit r)) ∧ Below w.heap.size w w' := by
  have HE := Lib.hid (has_bit x r hx hr)
  go_enter Tryd.func51, Tryd.ntmps51
  go_wp2
  go_quiet (fail)
  go_wp2
  go_ret
  refine ⟨congrArg (fun b => Ending.returned (.bool b)) HE.out, ?_⟩
  refine below_drewN ?_ _
  (repeat' (first | (with_reducible exact Below.refl _ _) | (with_reducible assumption) | (with_reducible refine Below.alloc ?_ ?_ _) | (with_reducible refine Below.drew ?_) | (with_reducible refine Below.setCell ?_ ?_ _) | (with_reducible refine Below.trans ?_ (Below.mono (by assumption) ?_)) | go_size))

set_option maxHeartbeats 400000 in
theorem with_any (x r : Nat) (w : World) (hx : x < 8192) (hr : r < 13) :
    Calls Tryd.prog 50 #[.agg #[.int .u16 x], .int .i64 r] w fun e w' => e = .returned (.agg #[.int .u16 ((x ||| 2 ^ r : Nat) : Int)]) ∧ Below w.heap.size w w' := by
  have hp := pow_lt r hr
  have HE : Hid (bits .or .u16 (x : Int) (IntKind.u16.wrap ((2 : Int) ^ r)) = ((x ||| 2 ^ r : Nat) : Int)) := Lib.hid (by rw [pow13 r hr, u16_or_nat x (2 ^ r) (by omega) (by omega)])
  clear hp
  go_enter Tryd.func50, Tryd.ntmps50
  go_wp2
  go_region
  go_wp2
  refine bodyPost_ret (v := .agg #[.int .u16 (bits .or .u16 (x : Int) (IntKind.u16.wrap ((2 : Int) ^ r)))]) (by simp [results, Tryd.results50, go_sem]) rfl ⟨ret_set HE.out, ?_⟩
  (repeat' (first | (with_reducible exact Below.refl _ _) | (with_reducible assumption) | (with_reducible refine Below.alloc ?_ ?_ _) | (with_reducible refine Below.drew ?_) | (with_reducible refine Below.setCell ?_ ?_ _) | (with_reducible refine Below.trans ?_ (Below.mono (by assumption) ?_)) | go_size))
theorem all_any (w : World) :
    Calls Tryd.prog 53 #[] w fun e w' => e = .returned (.agg #[.int .u16 8191]) ∧ Below w.heap.size w w' := by
  go_enter Tryd.func53, Tryd.ntmps53
  go_wp2
  refine bodyPost_ret (v := .agg #[.int .u16 8191]) (by simp [results, Tryd.results53, go_sem]) rfl ⟨rfl, ?_⟩
  (repeat' (first | (with_reducible exact Below.refl _ _) | (with_reducible assumption) | (with_reducible refine Below.alloc ?_ ?_ _) | (with_reducible refine Below.drew ?_) | (with_reducible refine Below.setCell ?_ ?_ _) | (with_reducible refine Below.trans ?_ (Below.mono (by assumption) ?_)) | go_size))
end Go.Proofs.YtmmecpmeemhglaaDoor
