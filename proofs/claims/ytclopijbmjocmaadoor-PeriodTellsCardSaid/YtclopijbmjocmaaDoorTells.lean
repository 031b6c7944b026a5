/-
  The walks of the statements on periods. Conditions: the package-level variables read as the program lays them (Env).
-/
import Derived.Test.YtclopijbmjocmaaDoorAwake
import Derived.Deep.RegionHeld3
import Derived.WalkKit
import Derived.WalkSpells
import Derived.WalkLawsBesides
import Derived.Deep.QuietTactic
import Derived.BigQuiet
import Derived.Handy
import Derived.Lib.Hide
namespace Go.Proofs.YtclopijbmjocmaaDoor
open Go.RowKit

/-- What holds of every world that a drawn region passes: the two boxed periods, the variables, nothing old written. -/
theorem hold4 {w wA w' : World} {n0 : Nat} {a b c d : Value} (h1 : wA.cell? ⟨n0, 0, none⟩ = some a) (h2 : wA.cell? ⟨n0, 1, none⟩ = some b) (h3 : wA.cell? ⟨n0 + 1, 0, none⟩ = some c) (h4 : wA.cell? ⟨n0 + 1, 1, none⟩ = some d)
    (he : Env wA) (hB : Below w.heap.size w wA) (hn : n0 + 2 ≤ wA.heap.size) (hb : Below wA.heap.size wA w') :
    w'.cell? ⟨n0, 0, none⟩ = some a ∧ w'.cell? ⟨n0, 1, none⟩ = some b ∧ w'.cell? ⟨n0 + 1, 0, none⟩ = some c ∧ w'.cell? ⟨n0 + 1, 1, none⟩ = some d ∧ Env w' ∧ Below w.heap.size w w' ∧ n0 + 2 ≤ w'.heap.size := by
  have k : ∀ p : Addr, p.block < wA.heap.size → w'.cell? p = wA.cell? p := fun p hp => hb.cell hp
  refine ⟨(k _ (show n0 < _ by omega)).trans h1, (k _ (show n0 < _ by omega)).trans h2, (k _ (show n0 + 1 < _ by omega)).trans h3, (k _ (show n0 + 1 < _ by omega)).trans h4, he.step hb, hB.trans (hb.mono hB.size), Nat.le_trans hn hb.size⟩

set_option maxRecDepth 100000 in
set_option maxHeartbeats 3200000 in
theorem tells_any (a b c d t : Int) (w : World) (henv : Env w) :
    Calls Tryd.prog 3 #[.agg #[.int .i64 a, .int .i64 b], .agg #[.int .i64 c, .int .i64 d], .int .i64 t] w fun e w' => e = .returned (.bool true) ∧ Below w.heap.size w w' := by
  go_enter Tryd.func3, Tryd.ntmps3
  go_wp2_with fail
  have henv2 : Env ((w.alloc (.cells #[.int .i64 a, .int .i64 b] 23)).alloc (.cells #[.int .i64 c, .int .i64 d] 23)).drew := henv.step (by (repeat' (first | (with_reducible exact Below.refl _ _) | (with_reducible assumption) | (with_reducible refine Below.alloc ?_ ?_ _) | (with_reducible refine Below.drew ?_) | (with_reducible refine Below.setCell ?_ ?_ _) | (with_reducible refine Below.trans ?_ (Below.mono (by assumption) ?_)) | go_size)))
  have hbel : Below w.heap.size w ((w.alloc (.cells #[.int .i64 a, .int .i64 b] 23)).alloc (.cells #[.int .i64 c, .int .i64 d] 23)).drew := (by (repeat' (first | (with_reducible exact Below.refl _ _) | (with_reducible assumption) | (with_reducible refine Below.alloc ?_ ?_ _) | (with_reducible refine Below.drew ?_) | (with_reducible refine Below.setCell ?_ ?_ _) | (with_reducible refine Below.trans ?_ (Below.mono (by assumption) ?_)) | go_size)))
  go_region_held3 (fun w' => w'.cell? ⟨w.heap.size, 0, none⟩ = some (.int .i64 a) ∧ w'.cell? ⟨w.heap.size, 1, none⟩ = some (.int .i64 b) ∧ w'.cell? ⟨w.heap.size + 1, 0, none⟩ = some (.int .i64 c) ∧ w'.cell? ⟨w.heap.size + 1, 1, none⟩ = some (.int .i64 d) ∧ Env w' ∧ Below w.heap.size w w' ∧ w.heap.size + 2 ≤ w'.heap.size)
    (first | (go_split_ands; exact hold4 (by assumption) (by assumption) (by assumption) (by assumption) (by assumption) (by assumption) (by assumption) (by assumption)) | (refine ⟨?_, ?_, ?_, ?_, by assumption, by assumption, ?_⟩ <;> first | go_keep | (simp; omega)))
    (first
      | (go_at_call 9; refine (valid_any _ _ _).mono ?_; rintro e w1 ⟨rfl, hb⟩)
      | (go_at_call 11; refine (contains_any _ _ _ _).mono ?_; rintro e w1 ⟨rfl, hb⟩)
      | (go_at_call 13; refine (covers_any _ _ _ _ _).mono ?_; rintro e w1 ⟨rfl, hb⟩)
      | (go_at_call 15; refine (overlaps_any _ _ _ _ _).mono ?_; rintro e w1 ⟨rfl, hb⟩)
      | (go_at_call 17; refine (adjacent_any _ _ _ _ _).mono ?_; rintro e w1 ⟨rfl, hb⟩)
      | (go_at_call 10; refine (rvalid_any _ _ _).mono ?_; rintro e w1 ⟨rfl, hb⟩)
      | (go_at_call 12; refine (rcontains_any _ _ _ _).mono ?_; rintro e w1 ⟨rfl, hb⟩)
      | (go_at_call 14; refine (rcovers_any _ _ _ _ _).mono ?_; rintro e w1 ⟨rfl, hb⟩)
      | (go_at_call 16; refine (roverlaps_any _ _ _ _ _).mono ?_; rintro e w1 ⟨rfl, hb⟩)
      | (go_at_call 18; refine (radjacent_any _ _ _ _ _).mono ?_; rintro e w1 ⟨rfl, hb⟩)
      | (go_at_call 19; go_split_ands; refine (awake_any _ (by assumption)).mono ?_; rintro e w1 ⟨rfl, hb⟩))
  go_wp2
  go_ret
  go_split_ands
  exact ⟨rfl, by assumption⟩
end Go.Proofs.YtclopijbmjocmaaDoor
