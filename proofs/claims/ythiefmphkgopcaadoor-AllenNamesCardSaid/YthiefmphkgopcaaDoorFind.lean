/-
  Contracts of Find, and of the reference's Name and Find. Conditions: the table of keywords reads as the program lays it (Env).
-/
import Derived.Test.YthiefmphkgopcaaDoorNames
import Derived.Test.YthiefmphkgopcaaDoorBlk
import Derived.Test.YthiefmphkgopcaaDoorIdx
import Derived.WalkKit
import Derived.WalkSpells
import Derived.WalkLawsBesides
import Derived.Deep.QuietTactic
import Derived.BigQuiet
import Derived.Handy
import Derived.Lib.Hide
namespace Go.Proofs.YthiefmphkgopcaaDoor
open Go.RowKit

/-- The first relation from k on whose keyword is s; -1 if there is none. -/
def findR (s : ByteArray) : Nat → Nat → Int
  | 0, _ => -1
  | f + 1, k => if (nm k).toList == s.toList then (k : Int) else findR s f (k + 1)

theorem findR_step (s : ByteArray) (f k : Nat) : findR s (f + 1) k = if (nm k).toList == s.toList then (k : Int) else findR s f (k + 1) := rfl
def nmA : Array Value := ((List.range 13).map fun k => Value.string (nm k)).toArray
theorem nmA_lit : nmA = #[.string (nm 0), .string (nm 1), .string (nm 2), .string (nm 3), .string (nm 4), .string (nm 5), .string (nm 6), .string (nm 7), .string (nm 8), .string (nm 9), .string (nm 10), .string (nm 11), .string (nm 12)] := rfl
theorem nmA_at (k : Nat) (h : k < 13) : nmA[k]? = some (.string (nm k)) := by
  unfold nmA
  rw [List.getElem?_toArray, List.getElem?_map, List.getElem?_range h]
  rfl
theorem nm_idx (k : Nat) (h : k < 13) (w : World) : (Instr.index 61 (.agg nmA) (.int .i64 (k : Int))).run Tryd.prog w = .ok (.string (nm k)) w :=
  idx_cell w Tryd.underlying61 (by kernel_rfl) (by kernel_rfl) h (nmA_at k h)
set_option maxRecDepth 100000 in
set_option maxHeartbeats 1600000 in
theorem rname_in (k : Nat) (w : World) (h : k < 13) :
    Calls Tryd.prog 21 #[.int .i64 (k : Int)] w fun e w' => e = .returned (.string (nm k)) ∧ Below w.heap.size w w' := by
  have hk : k = 0 ∨ k = 1 ∨ k = 2 ∨ k = 3 ∨ k = 4 ∨ k = 5 ∨ k = 6 ∨ k = 7 ∨ k = 8 ∨ k = 9 ∨ k = 10 ∨ k = 11 ∨ k = 12 := by omega
  rcases hk with rfl | rfl | rfl | rfl | rfl | rfl | rfl | rfl | rfl | rfl | rfl | rfl | rfl
  all_goals
    go_enter Tryd.func21, Tryd.ntmps21
    go_wp2
    go_ret
    refine ⟨rfl, ?_⟩
    (repeat' (first | (with_reducible exact Below.refl _ _) | (with_reducible assumption) | (with_reducible refine Below.alloc ?_ ?_ _) | (with_reducible refine Below.drew ?_) | (with_reducible refine Below.setCell ?_ ?_ _) | (with_reducible refine Below.trans ?_ (Below.mono (by assumption) ?_)) | go_size))
set_option maxHeartbeats 800000 in
theorem rname_any (r : Int) (w : World) :
    Calls Tryd.prog 21 #[.int .i64 r] w fun e w' => e = .returned (.string (nameB r)) ∧ Below w.heap.size w w' := by
  unfold nameB
  by_cases h0 : r < 0
  · rw [show isRel r = false by unfold isRel; rw [decide_eq_false (by omega)]; rfl]
    go_enter Tryd.func21, Tryd.ntmps21
    go_wp2
    go_ret
    exact ⟨rfl, Below.refl _ _⟩
  by_cases h1 : r ≥ 13
  · rw [show isRel r = false by unfold isRel; rw [decide_eq_false (p := r < 13) (by omega), Bool.and_false]]
    go_enter Tryd.func21, Tryd.ntmps21
    go_wp2
    go_ret
    exact ⟨rfl, Below.refl _ _⟩
  · obtain ⟨k, rfl⟩ := Int.eq_ofNat_of_zero_le (show 0 ≤ r by omega)
    rw [(isRel_iff _).2 (by omega), if_pos rfl, Int.toNat_natCast]
    exact rname_in k w (by omega)
attribute [local irreducible] nm

set_option maxRecDepth 100000 in
set_option maxHeartbeats 1600000 in
theorem find_any (s : ByteArray) (w : World) (henv : Env w) :
    Calls Tryd.prog 22 #[.string s] w fun e w' => e = .returned (.int .i64 (findR s 13 0)) ∧ Below w.heap.size w w' := by
  have c0 := henv.name 0 (by decide)
  have c1 := henv.name 1 (by decide)
  have c2 := henv.name 2 (by decide)
  have c3 := henv.name 3 (by decide)
  have c4 := henv.name 4 (by decide)
  have c5 := henv.name 5 (by decide)
  have c6 := henv.name 6 (by decide)
  have c7 := henv.name 7 (by decide)
  have c8 := henv.name 8 (by decide)
  have c9 := henv.name 9 (by decide)
  have c10 := henv.name 10 (by decide)
  have c11 := henv.name 11 (by decide)
  have c12 := henv.name 12 (by decide)
  go_enter Tryd.func22, Tryd.ntmps22
  go_wp2
  rw [← nmA_lit]
  clear c0 c1 c2 c3 c4 c5 c6 c7 c8 c9 c10 c11 c12
  go_loopw [6] (fun c wr => ∃ k : Nat, k ≤ 13 ∧ c = .int .i64 k ∧ findR s 13 0 = findR s (13 - k) k ∧ w = wr) (fun c _ => 13 - (intOf c).toNat)
  case atStart => exact ⟨0, by omega, rfl, rfl, rfl⟩
  case round =>
    obtain ⟨k, hk, rfl, hf, rfl⟩ := hrel
    by_cases hlt : k < 13
    · have hx := nm_idx k hlt
      have hS := findR_step s (12 - k) k
      rw [show 12 - k + 1 = 13 - k by omega, ← hf] at hS
      have HS := Lib.hid hS
      clear hS hf
      generalize nm k = b at *
      cases hb : (b.toList == s.toList)
      · have H2 := Lib.hid (HS.out.trans (by rw [hb]; rfl : _ = findR s (12 - k) (k + 1)))
        clear HS
        go_wp2
        go_roundw
        case rel => exact ⟨k + 1, by omega, by go_num, by rw [H2.out, show 13 - (k + 1) = 12 - k by omega], by first | trivial | rfl⟩
        case measure => simp [intOf]; omega
      · have H2 := Lib.hid (HS.out.trans (by rw [hb]; rfl : _ = (k : Int)))
        clear HS
        go_wp2
        go_ret
        exact ⟨congrArg (fun n => Ending.returned (.int .i64 n)) H2.out.symm, Below.refl _ _⟩
    · have hkl : k = 13 := by omega
      subst hkl
      have H2 := Lib.hid (hf.trans (show findR s (13 - 13) 13 = -1 from rfl))
      clear hf
      go_wp2
      go_ret
      exact ⟨congrArg (fun n => Ending.returned (.int .i64 n)) H2.out.symm, Below.refl _ _⟩
end Go.Proofs.YthiefmphkgopcaaDoor
