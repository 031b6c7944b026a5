/-
  The reference's networks as rows of bools, and the contract of its possible: whether a relation is possible by way of a third period. Conditions: at most eight periods.
-/
import Derived.Test.YtmmecpmeemhglaaDoorRcm
import Derived.Test.YtmmecpmeemhglaaDoorSound
import Derived.WalkKit
import Derived.WalkSpells
import Derived.WalkLawsBesides
import Derived.Deep.QuietTactic
import Derived.BigQuiet
import Derived.Handy
import Derived.Lib.Hide
namespace Go.Proofs.YtmmecpmeemhglaaDoor
open Go.RowKit

abbrev BNet := Nat → Nat → Nat → Bool
def rmN (n : Nat) (M : BNet) : List Bool := (List.range (13 * (n * n))).map fun x => M (x / 13 / n) (x / 13 % n) (x % 13)
def rmA (n : Nat) (M : BNet) : Array Value := ((rmN n M).map Value.bool).toArray
theorem rm_lt {n i j c : Nat} (hi : i < n) (hj : j < n) (hc : c < 13) : 13 * (n * i + j) + c < 13 * (n * n) := by
  have h1 : n * i + j < n * (i + 1) := by rw [Nat.mul_succ]; omega
  have h2 : n * (i + 1) ≤ n * n := Nat.mul_le_mul_left n hi
  omega
theorem rm_div {n i j c : Nat} (hj : j < n) (hc : c < 13) : (13 * (n * i + j) + c) / 13 / n = i ∧ (13 * (n * i + j) + c) / 13 % n = j ∧ (13 * (n * i + j) + c) % 13 = c := by
  have e : (13 * (n * i + j) + c) / 13 = n * i + j := by omega
  rw [e]
  refine ⟨?_, ?_, by omega⟩
  · rw [Nat.mul_add_div (by omega), Nat.div_eq_of_lt hj, Nat.add_zero]
  · rw [Nat.mul_add_mod, Nat.mod_eq_of_lt hj]
theorem rmA_get {n i j c : Nat} (M : BNet) (hi : i < n) (hj : j < n) (hc : c < 13) : (rmA n M)[13 * (n * i + j) + c]? = some (.bool (M i j c)) := by
  unfold rmA rmN
  rw [List.getElem?_toArray, List.getElem?_map, List.getElem?_map, List.getElem?_range (rm_lt hi hj hc)]
  obtain ⟨e1, e2, e3⟩ := rm_div (i := i) hj hc
  simp only [Option.map_some, e1, e2, e3]
def setB (M : BNet) (i j c : Nat) (v : Bool) : BNet := fun x y z => if x = i ∧ y = j ∧ z = c then v else M x y z
theorem rmA_set {n i j c : Nat} (M : BNet) (v : Bool) (hi : i < n) (hj : j < n) (hc : c < 13) : (rmA n M).setIfInBounds (13 * (n * i + j) + c) (.bool v) = rmA n (setB M i j c v) := by
  unfold rmA
  rw [List.setIfInBounds_toArray, ← List.map_set]
  congr 2
  unfold rmN
  apply List.ext_getElem?
  intro x
  rw [List.getElem?_set]
  simp only [List.length_map, List.length_range, List.getElem?_map]
  obtain ⟨e1, e2, e3⟩ := rm_div (i := i) hj hc
  have hl := rm_lt hi hj hc
  by_cases hx : x < 13 * (n * n)
  · rw [List.getElem?_range hx]
    simp only [Option.map_some]
    by_cases he : 13 * (n * i + j) + c = x
    · subst he
      rw [if_pos rfl, if_pos hl, e1, e2, e3]
      unfold setB
      rw [if_pos ⟨rfl, rfl, rfl⟩]
    · rw [if_neg he]
      congr 1
      unfold setB
      rw [if_neg]
      rintro ⟨h1, h2, h3⟩
      apply he
      have h4 := Nat.div_add_mod (x / 13) n
      have h5 := Nat.div_add_mod x 13
      rw [h1, h2] at h4
      omega
  · rw [if_neg (by omega), List.getElem?_eq_none (by simpa using hx)]
    rfl
theorem rmA_size (n : Nat) (M : BNet) : (rmA n M).size = 13 * (n * n) := by unfold rmA rmN; simp

/-- Whether c is possible between i and j by way of k, with the first A members of the way's first part. -/
def posA (M : BNet) (i j k c : Nat) (A : Nat) : Bool := (List.range A).any fun a => M i k a && ((List.range 13).any fun b => M k j b && (tb a b).testBit c)
def posX (M : BNet) (j k c a : Nat) (B : Nat) : Bool := (List.range B).any fun b => M k j b && (tb a b).testBit c
theorem posA_step (M : BNet) (i j k c A : Nat) : posA M i j k c (A + 1) = (posA M i j k c A || (M i k A && posX M j k c A 13)) := by
  unfold posA posX; rw [List.range_succ, List.any_append]; simp
theorem posX_step (M : BNet) (j k c a B : Nat) : posX M j k c a (B + 1) = (posX M j k c a B || (M k j B && (tb a B).testBit c)) := by
  unfold posX; rw [List.range_succ, List.any_append]; simp
theorem posX_yes {M : BNet} {j k c a b : Nat} (hb : b < 13) (h : (M k j b && (tb a b).testBit c) = true) : posX M j k c a 13 = true := List.any_eq_true.2 ⟨b, List.mem_range.2 hb, h⟩
theorem posA_yes {M : BNet} {i j k c a : Nat} (ha : a < 13) (h : (M i k a && posX M j k c a 13) = true) : posA M i j k c 13 = true := List.any_eq_true.2 ⟨a, List.mem_range.2 ha, h⟩
theorem posA_iff (M : BNet) (i j k c : Nat) : posA M i j k c 13 = true ↔ ∃ a b, a < 13 ∧ b < 13 ∧ M i k a = true ∧ M k j b = true ∧ (tb a b).testBit c = true := by
  unfold posA
  simp only [List.any_eq_true, List.mem_range, Bool.and_eq_true]
  constructor
  · rintro ⟨a, ha, h1, b, hb, h2, h3⟩; exact ⟨a, b, ha, hb, h1, h2, h3⟩
  · rintro ⟨a, b, ha, hb, h1, h2, h3⟩; exact ⟨a, ha, h1, b, hb, h2, h3⟩
attribute [local irreducible] rtA tbA tb rmA posA posX

set_option maxRecDepth 100000 in
set_option maxHeartbeats 3200000 in
theorem possible_any (n i j k c : Nat) (M : BNet) (g gm : Nat) (w : World) (hT : Own w g 4 (rtA 3375)) (hM : Own w gm 4 (rmA n M)) (hn : n ≤ 8) (hi : i < n) (hj : j < n) (hk : k < n) (hc : c < 13) :
    Calls Tryd.prog 58 #[.slice (some ⟨g, 0, none⟩) 2197 2197, .slice (some ⟨gm, 0, none⟩) (13 * (n * n)) (13 * (n * n)), .int .i64 n, .int .i64 i, .int .i64 j, .int .i64 k, .int .i64 c] w fun e w' => e = .returned (.bool (posA M i j k c 13)) ∧ w = w' := by
  have HT := Lib.hid hT
  have HM := Lib.hid hM
  clear hT hM
  obtain ⟨X, hX⟩ : ∃ X, X = n * i := ⟨_, rfl⟩
  obtain ⟨Y, hY⟩ : ∃ Y, Y = n * k := ⟨_, rfl⟩
  obtain ⟨N, hN⟩ : ∃ N, N = 13 * (n * n) := ⟨_, rfl⟩
  have bX : X ≤ 56 := by subst hX; exact Nat.le_trans (Nat.mul_le_mul hn (show i ≤ 7 by omega)) (by decide)
  have bY : Y ≤ 56 := by subst hY; exact Nat.le_trans (Nat.mul_le_mul hn (show k ≤ 7 by omega)) (by decide)
  have bN : N ≤ 832 := by subst hN; exact Nat.mul_le_mul_left 13 (Nat.mul_le_mul hn hn)
  have wX : IntKind.i64.wrap ((n : Int) * (i : Int)) = (X : Int) := by rw [hX, Int.natCast_mul]; exact IntWalk.i64_in _ (by rw [← Int.natCast_mul, ← hX]; omega)
  have wY : IntKind.i64.wrap ((n : Int) * (k : Int)) = (Y : Int) := by rw [hY, Int.natCast_mul]; exact IntWalk.i64_in _ (by rw [← Int.natCast_mul, ← hY]; omega)
  have RX := Lib.hid (fun (a : Nat) (ha : a < 13) => show 13 * (X + k) + a < N ∧ (rmA n M)[13 * (X + k) + a]? = some (.bool (M i k a)) by subst hX hN; exact ⟨rm_lt hi hk ha, rmA_get M hi hk ha⟩)
  have RY := Lib.hid (fun (a : Nat) (ha : a < 13) => show 13 * (Y + j) + a < N ∧ (rmA n M)[13 * (Y + j) + a]? = some (.bool (M k j a)) by subst hY hN; exact ⟨rm_lt hk hj ha, rmA_get M hk hj ha⟩)
  rw [← hN]
  clear hX hY hN
  go_enter Tryd.func58, Tryd.ntmps58
  go_wp2
  go_loopw [15] (fun i' wr => ∃ a : Nat, a ≤ 13 ∧ i' = .int .i64 a ∧ Hid (posA M i j k c a = false) ∧ w = wr) (fun i' _ => 13 - (intOf i').toNat)
  case atStart => exact ⟨0, by omega, rfl, Lib.hid (by unfold posA; rfl), rfl⟩
  case round =>
    obtain ⟨a, ha, rfl, hno, rfl⟩ := hrel
    by_cases hat : a < 13
    · have hda : decide ((a : Int) < 13) = true := by simp; omega
      obtain ⟨hxl, hx0⟩ := RX.out a hat
      have hx := (HM.out.cell (13 * (X + k) + a)).trans hx0
      clear hx0
      have i1 : IntKind.i64.wrap ((X : Int) + k) = X + k := IntWalk.i64_in _ (by omega)
      have i2 : IntKind.i64.wrap (13 * ((X : Int) + k)) = 13 * (X + k) := IntWalk.i64_in _ (by omega)
      have i3 : IntKind.i64.wrap (13 * ((X : Int) + k) + a) = 13 * (X + k) + a := IntWalk.i64_in _ (by omega)
      have i4 : (13 * ((X : Int) + k) + a).toNat = 13 * (X + k) + a := by omega
      have i5 : (0 : Int) ≤ 13 * ((X : Int) + k) + a := by omega
      have i6 : 13 * ((X : Int) + k) + a < (N : Int) := by omega
      have i7 : (⟨gm, 0, none⟩ : Addr).add (13 * (X + k) + a) = ⟨gm, 13 * (X + k) + a, none⟩ := plain_add _ _
      have hS := Lib.hid (posA_step M i j k c a)
      have hY := Lib.hid (fun h => posA_yes (M := M) (i := i) (j := j) (k := k) (c := c) hat h)
      cases hm : M i k a
      · have hno2 : Hid (posA M i j k c (a + 1) = false) := Lib.hid (by rw [hS.out, hno.out, hm]; rfl)
        rw [hm] at hx
        clear hS hY hno
        go_wp2
        go_roundw
        case rel => exact ⟨a + 1, by omega, by go_num, hno2, by first | trivial | rfl⟩
        case measure => simp [intOf]; omega
      · rw [hm] at hx
        rw [hm, Bool.true_and] at hY
        have hS2 : Hid (posX M j k c a 13 = false → posA M i j k c (a + 1) = false) := Lib.hid (fun h => by rw [hS.out, hno.out, hm, h]; rfl)
        clear hS hno
        go_wp2
        clear i1 i2 i3 i4 i5 i6 i7 hx hxl
        go_loopw [16] (fun i' wr => ∃ b : Nat, b ≤ 13 ∧ i' = .int .i64 b ∧ Hid (posX M j k c a b = false) ∧ w = wr) (fun i' _ => 13 - (intOf i').toNat)
        case atStart => exact ⟨0, by omega, rfl, Lib.hid (by unfold posX; rfl), by first | trivial | rfl⟩
        case round =>
          obtain ⟨b, hb, rfl, hno, rfl⟩ := hrel
          by_cases hbt : b < 13
          · have hdb : decide ((b : Int) < 13) = true := by simp; omega
            obtain ⟨hyl, hy0⟩ := RY.out b hbt
            have hy := (HM.out.cell (13 * (Y + j) + b)).trans hy0
            have ht := (HT.out.cell (169 * a + 13 * b + c)).trans (rtA_get 3375 (169 * a + 13 * b + c) (by omega))
            rw [rt_tb a b c hat hbt hc] at ht
            clear hy0
            have j1 : IntKind.i64.wrap ((Y : Int) + j) = Y + j := IntWalk.i64_in _ (by omega)
            have j2 : IntKind.i64.wrap (13 * ((Y : Int) + j)) = 13 * (Y + j) := IntWalk.i64_in _ (by omega)
            have j3 : IntKind.i64.wrap (13 * ((Y : Int) + j) + b) = 13 * (Y + j) + b := IntWalk.i64_in _ (by omega)
            have j4 : (13 * ((Y : Int) + j) + b).toNat = 13 * (Y + j) + b := by omega
            have j5 : (0 : Int) ≤ 13 * ((Y : Int) + j) + b := by omega
            have j6 : 13 * ((Y : Int) + j) + b < (N : Int) := by omega
            have j7 : (⟨gm, 0, none⟩ : Addr).add (13 * (Y + j) + b) = ⟨gm, 13 * (Y + j) + b, none⟩ := plain_add _ _
            have k1 : IntKind.i64.wrap (169 * (a : Int)) = 169 * a := IntWalk.i64_in _ (by omega)
            have k2 : IntKind.i64.wrap (13 * (b : Int)) = 13 * b := IntWalk.i64_in _ (by omega)
            have k3 : IntKind.i64.wrap (169 * (a : Int) + 13 * b) = 169 * a + 13 * b := IntWalk.i64_in _ (by omega)
            have k4 : IntKind.i64.wrap (169 * (a : Int) + 13 * b + c) = 169 * a + 13 * b + c := IntWalk.i64_in _ (by omega)
            have k5 : (169 * (a : Int) + 13 * b + c).toNat = 169 * a + 13 * b + c := by omega
            have k6 : (0 : Int) ≤ 169 * (a : Int) + 13 * b + c := by omega
            have k7 : 169 * (a : Int) + 13 * b + c < 2197 := by omega
            have k8 : (⟨g, 0, none⟩ : Addr).add (169 * a + 13 * b + c) = ⟨g, 169 * a + 13 * b + c, none⟩ := plain_add _ _
            have hS := Lib.hid (posX_step M j k c a b)
            have hYb := Lib.hid (fun h => hY.out (posX_yes (M := M) (j := j) (k := k) (c := c) (a := a) hbt h))
            cases hm2 : M k j b
            · have hno2 : Hid (posX M j k c a (b + 1) = false) := Lib.hid (by rw [hS.out, hno.out, hm2]; rfl)
              rw [hm2] at hy
              clear hS hYb hno
              go_wp2
              go_roundw
              case rel => exact ⟨b + 1, by omega, by go_num, hno2, by first | trivial | rfl⟩
              case measure => simp [intOf]; omega
            · cases ht2 : (tb a b).testBit c
              · have hno2 : Hid (posX M j k c a (b + 1) = false) := Lib.hid (by rw [hS.out, hno.out, hm2, ht2]; rfl)
                rw [hm2] at hy
                rw [ht2] at ht
                clear hS hYb hno
                go_wp2
                go_roundw
                case rel => exact ⟨b + 1, by omega, by go_num, hno2, by first | trivial | rfl⟩
                case measure => simp [intOf]; omega
              · have hR : Hid (posA M i j k c 13 = true) := Lib.hid (hYb.out (by rw [hm2, ht2]; rfl))
                rw [hm2] at hy
                rw [ht2] at ht
                clear hS hYb hno
                go_wp2
                go_ret
                exact ⟨congrArg (fun b => Ending.returned (.bool b)) hR.out.symm, rfl⟩
          · have hb13 : b = 13 := by omega
            subst hb13
            have hno2 := Lib.hid (hS2.out hno.out)
            go_wp2
            go_roundw
            case rel => exact ⟨a + 1, by omega, by go_num, hno2, by first | trivial | rfl⟩
            case measure => simp [intOf]; omega
    · have ha13 : a = 13 := by omega
      subst ha13
      go_wp2
      go_ret
      exact ⟨congrArg (fun b => Ending.returned (.bool b)) hno.out.symm, rfl⟩
end Go.Proofs.YtmmecpmeemhglaaDoor
