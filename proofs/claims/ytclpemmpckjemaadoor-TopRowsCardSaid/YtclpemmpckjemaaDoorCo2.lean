/-
  The program's zigzag, fromZigzag, isOffset and limited: what each answers. Conditions: numbers of 64 bits.
-/
import Derived.Test.YtclpemmpckjemaaDoorCo1
import Derived.Laws.BitsAllLaws
import Derived.Laws.Bits64
import Derived.Lib.Zigzag
import Derived.WalkKit
import Derived.WalkSpells
import Derived.WalkLawsBesides
import Derived.Deep.QuietTactic
import Derived.BigQuiet
import Derived.Handy
import Derived.Lib.Hide
namespace Go.Proofs.YtclpemmpckjemaaDoor
open Go.RowKit

/-- A number folded to one without a sign. -/
def zig (n : Int) : Nat := if n < 0 then (-2 * n - 1).toNat else (2 * n).toNat
def unzig (z : Nat) : Int := if z % 2 = 1 then -((z / 2 : Nat) : Int) - 1 else ((z / 2 : Nat) : Int)
def I64 (n : Int) : Prop := -9223372036854775808 ≤ n ∧ n ≤ 9223372036854775807
theorem zig_lt {n : Int} (h : I64 n) : zig n < 18446744073709551616 := by unfold zig I64 at *; split <;> omega
theorem unzig_i64 {z : Nat} (h : z < 18446744073709551616) : I64 (unzig z) := by unfold unzig I64; split <;> omega
theorem unzig_zig (n : Int) : unzig (zig n) = n := by unfold unzig zig; split <;> split <;> omega
theorem zig_unzig (z : Nat) : zig (unzig z) = z := by unfold unzig zig; split <;> split <;> omega
set_option maxHeartbeats 800000 in
theorem zigzag_any (n : Int) (hn : I64 n) (w : World) : Calls Tryd.prog 34 #[.int .i64 n] w fun e w' => e = .returned (.int .u64 (zig n : Nat)) ∧ w' = w := by
  unfold I64 at hn
  unfold zig
  by_cases h : n < 0
  · rw [if_pos h]
    have hz := Lib.zigzag_neg hn.1 h
    have hzz : ((Lib.zigzag n : Nat) : Int) = (((-2 * n - 1).toNat : Nat) : Int) := by unfold Lib.zigzag; rw [if_neg (by omega)]
    rw [hzz] at hz
    generalize (-2 * n - 1).toNat = z at *
    clear hzz
    go_enter Tryd.func34, Tryd.ntmps34
    go_wp2
    go_ret
    exact ⟨by rw [← hz]; rfl, rfl⟩
  · rw [if_neg h]
    have hz : n * 2 = (((2 * n).toNat : Nat) : Int) := by omega
    have HZ := Lib.hid hz
    generalize (2 * n).toNat = z at *
    clear hz
    go_enter Tryd.func34, Tryd.ntmps34
    go_wp2
    go_ret
    exact ⟨by rw [← HZ.out]; rfl, rfl⟩
set_option maxHeartbeats 800000 in
theorem fromZ_any (z : Nat) (hz : z < 18446744073709551616) (w : World) : Calls Tryd.prog 37 #[.int .u64 z] w fun e w' => e = .returned (.int .i64 (unzig z)) ∧ w' = w := by
  unfold unzig
  by_cases h : z % 2 = 1
  · rw [if_pos h]
    have hi : (z : Int) % 2 = 1 := by omega
    have hz2 := Lib.i64_not (z / 2) (by omega)
    rw [Int.natCast_ediv] at hz2
    have HZ := Lib.hid hz2
    clear hz2
    go_enter Tryd.func37, Tryd.ntmps37
    go_wp2
    go_ret
    exact ⟨congrArg (fun x => Ending.returned (Value.int .i64 x)) HZ.out, rfl⟩
  · rw [if_neg h]
    have hi : ((z : Int) % 2 == 1) = false := by rw [beq_eq_false_iff_ne]; omega
    go_enter Tryd.func37, Tryd.ntmps37
    go_wp2
    go_ret
    exact ⟨rfl, rfl⟩
theorem isOffset_any (v : Value) (l : List UInt8) (i : Int) (w : World) (L B : Nat) (hv : RdB w L B v l) : Calls Tryd.prog 36 #[v, .int .i64 i] w fun e w' => e = .returned (.bool (decide (0 ≤ i ∧ i ≤ l.length))) ∧ w' = w := by
  obtain ⟨A, c, rfl, _⟩ := hv
  by_cases h1 : 0 ≤ i
  · by_cases h2 : i ≤ l.length
    · rw [decide_eq_true ⟨h1, h2⟩]
      go_enter Tryd.func36, Tryd.ntmps36
      go_wp2
      go_ret
      exact ⟨rfl, rfl⟩
    · rw [decide_eq_false (fun h => h2 h.2)]
      go_enter Tryd.func36, Tryd.ntmps36
      go_wp2
      go_ret
      exact ⟨rfl, rfl⟩
  · rw [decide_eq_false (fun h => h1 h.1)]
    go_enter Tryd.func36, Tryd.ntmps36
    go_wp2
    go_ret
    exact ⟨rfl, rfl⟩
theorem limited_any (A : Option Addr) (n c : Nat) (w : World) (_hn : n ≤ 9223372036854775807) (hc : n ≤ c) : Calls Tryd.prog 22 #[.slice A n c] w fun e w' => e = .returned (.slice A n n) ∧ w' = w := by
  go_enter Tryd.func22, Tryd.ntmps22
  go_wp2
  go_ret
  exact ⟨rfl, rfl⟩
end Go.Proofs.YtclpemmpckjemaaDoor
