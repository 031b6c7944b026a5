import Derived.Test.YtnbeopkpkagjmaaGreatRA
import Derived.Test.YtnbeopkpkagjmaaGreatSA
import Derived.WalkKit
import Derived.WalkSpells
import Derived.WalkLawsBesides
import Derived.Deep.QuietTactic
import Derived.BigQuiet
import Derived.Handy
import Derived.Lib.Hide
/-
  Contracts over rectangles and periods: Overlaps and Merge of the program, Sound, Overlaps, Contains and Same of the reference. Conditions: none.
-/
namespace Go.Proofs.YtnbeopkpkagjmaaGreat
set_option maxRecDepth 100000
set_option linter.unusedVariables false
set_option linter.unusedSimpArgs false
open Go.RowKit

theorem own_twoR {w : World} {t : TypeId} (o : Obj) (cs : Array Value) : Own ((w.alloc o).alloc (.cells cs t)) (w.heap.size + 1) t cs := by
  have h := Own.new (w.alloc o) t cs
  rwa [show (w.alloc o).heap.size = w.heap.size + 1 by simp] at h

set_option maxHeartbeats 800000 in
theorem overlaps_any (a b c d : Int) (w : World) :
    Calls Tryz.prog 112 #[.agg #[.int .i64 a, .int .i64 b], .agg #[.int .i64 c, .int .i64 d]] w fun e w' => e = .returned (.bool (ovl a b c d)) ∧ Below w.heap.size w w' := by
  unfold ovl
  cases h1 : vld a b <;> cases h2 : vld c d <;> by_cases h3 : a < d <;> by_cases h4 : c < b
  all_goals
    go_enter Tryz.func112, Tryz.ntmps112
    go_wp2_with (go_at_call 46; refine (valid_any _ _ _).mono ?_; rintro e w1 ⟨rfl, hb⟩; obtain ⟨hc, hf⟩ := bcell hb; have hz := hb.size; (try simp only [World.size_alloc] at hz); have hz0 : w.heap.size < w1.heap.size := (by omega); have hz1 : w.heap.size + 1 < w1.heap.size := (by omega))
    go_ret
    refine ⟨by simp [*], ?_⟩
    (repeat' (first | (with_reducible exact Below.refl _ _) | (with_reducible assumption) | (with_reducible refine Below.alloc ?_ ?_ _) | (with_reducible refine Below.drew ?_) | (with_reducible refine Below.setCell ?_ ?_ _) | (with_reducible refine Below.trans ?_ (Below.mono (by assumption) ?_)) | go_size))
def mrgB (p q : Int × Int) : Bool := ovl p.1 p.2 q.1 q.2 || adj p.1 p.2 q.1 q.2
def mrgV (p q : Int × Int) : Int × Int := if mrgB p q = true then (min p.1 q.1, max p.2 q.2) else (0, 0)
set_option maxHeartbeats 800000 in
theorem merge_yes (a b c d : Int) (w : World) (h : (ovl a b c d || adj a b c d) = true) :
    Calls Tryz.prog 89 #[.agg #[.int .i64 a, .int .i64 b], .agg #[.int .i64 c, .int .i64 d]] w fun e w' => e = .returned (.tuple #[.agg #[.int .i64 (min a c), .int .i64 (max b d)], .bool true]) ∧ Below w.heap.size w w' := by
  cases h1 : ovl a b c d <;> cases h2 : adj a b c d
  all_goals first | (exfalso; simp [h1, h2] at h; done) | clear h
  all_goals
    go_enter Tryz.func89, Tryz.ntmps89
    go_wp2_with (first | (go_at_call 112; refine (overlaps_any _ _ _ _ _).mono ?_; rintro e w1 ⟨rfl, hb⟩; obtain ⟨hc, hf⟩ := bcell hb; have hz := hb.size; (try simp only [World.size_alloc] at hz); have hz0 : w.heap.size < w1.heap.size := (by omega); have hz1 : w.heap.size + 1 < w1.heap.size := (by omega); have hz2 : w.heap.size + 2 < w1.heap.size := (by omega)) | (go_at_call 63; refine (adjacent_any _ _ _ _ _).mono ?_; rintro e w1 ⟨rfl, hb⟩; obtain ⟨hc, hf⟩ := bcell hb; have hz := hb.size; (try simp only [World.size_alloc] at hz); have hz0 : w.heap.size < w1.heap.size := (by omega); have hz1 : w.heap.size + 1 < w1.heap.size := (by omega); have hz2 : w.heap.size + 2 < w1.heap.size := (by omega)))
    all_goals
      refine bodyPost_ret (v := .tuple #[.agg #[.int .i64 (min a c), .int .i64 (max b d)], .bool true]) (by simp [results, Tryz.results89, go_sem, *]; omega) rfl ⟨rfl, ?_⟩
      (repeat' (first | (with_reducible exact Below.refl _ _) | (with_reducible assumption) | (with_reducible refine Below.alloc ?_ ?_ _) | (with_reducible refine Below.drew ?_) | (with_reducible refine Below.setCell ?_ ?_ _) | (with_reducible refine Below.trans ?_ (Below.mono (by assumption) ?_)) | go_size))

set_option maxHeartbeats 400000 in
theorem merge_no (a b c d : Int) (w : World) (h1 : ovl a b c d = false) (h2 : adj a b c d = false) :
    Calls Tryz.prog 89 #[.agg #[.int .i64 a, .int .i64 b], .agg #[.int .i64 c, .int .i64 d]] w fun e w' => e = .returned (.tuple #[.agg #[.int .i64 (0), .int .i64 (0)], .bool false]) ∧ Below w.heap.size w w' := by
  go_enter Tryz.func89, Tryz.ntmps89
  go_wp2_with (first | (go_at_call 112; refine (overlaps_any _ _ _ _ _).mono ?_; rintro e w1 ⟨rfl, hb⟩; obtain ⟨hc, hf⟩ := bcell hb; have hz := hb.size; (try simp only [World.size_alloc] at hz); have hz0 : w.heap.size < w1.heap.size := (by omega); have hz1 : w.heap.size + 1 < w1.heap.size := (by omega); have hz2 : w.heap.size + 2 < w1.heap.size := (by omega)) | (go_at_call 63; refine (adjacent_any _ _ _ _ _).mono ?_; rintro e w1 ⟨rfl, hb⟩; obtain ⟨hc, hf⟩ := bcell hb; have hz := hb.size; (try simp only [World.size_alloc] at hz); have hz0 : w.heap.size < w1.heap.size := (by omega); have hz1 : w.heap.size + 1 < w1.heap.size := (by omega); have hz2 : w.heap.size + 2 < w1.heap.size := (by omega)))
  all_goals
    refine bodyPost_ret (v := .tuple #[.agg #[.int .i64 (0), .int .i64 (0)], .bool false]) (by simp [results, Tryz.results89, go_sem, *]) rfl ⟨rfl, ?_⟩
    (repeat' (first | (with_reducible exact Below.refl _ _) | (with_reducible assumption) | (with_reducible refine Below.alloc ?_ ?_ _) | (with_reducible refine Below.drew ?_) | (with_reducible refine Below.setCell ?_ ?_ _) | (with_reducible refine Below.trans ?_ (Below.mono (by assumption) ?_)) | go_size))

theorem merge_any (a b c d : Int) (w : World) :
    Calls Tryz.prog 89 #[.agg #[.int .i64 a, .int .i64 b], .agg #[.int .i64 c, .int .i64 d]] w fun e w' =>
      e = .returned (.tuple #[.agg #[.int .i64 (mrgV (a, b) (c, d)).1, .int .i64 (mrgV (a, b) (c, d)).2], .bool (mrgB (a, b) (c, d))]) ∧ Below w.heap.size w w' := by
  cases h : mrgB (a, b) (c, d)
  · unfold mrgV
    rw [h]
    unfold mrgB at h
    rw [Bool.or_eq_false_iff] at h
    exact merge_no a b c d w h.1 h.2
  · unfold mrgV
    rw [h]
    exact merge_yes a b c d w h
set_option maxHeartbeats 800000 in
theorem sound_any (a b c d : Int) (w : World) :
    Calls Tryz.prog 31 #[.agg #[.int .i64 a, .int .i64 b, .int .i64 c, .int .i64 d]] w fun e w' => e = .returned (.bool (sndR ((a, b), (c, d)))) ∧ Below w.heap.size w w' := by
  have h1 := fun W => rvalid_any a b W
  have h2 := fun W => rvalid_any c d W
  unfold sndR
  dsimp only
  generalize vld a b = x at *
  generalize vld c d = y at *
  have o1 := Own.new w 35 #[.int .i64 a, .int .i64 b, .int .i64 c, .int .i64 d]
  have c0 := o1.cell 0
  have c1 := o1.cell 1
  have c2 := o1.cell 2
  have c3 := o1.cell 3
  have b1 : Below w.heap.size w (w.alloc (.cells #[.int .i64 a, .int .i64 b, .int .i64 c, .int .i64 d] 35)) := (Below.refl _ _).alloc (Nat.le_refl _) _
  go_enter Tryz.func31, Tryz.ntmps31
  go_wp2_with fail
  refine (h1 _).mono ?_
  rintro e w2 ⟨rfl, hb2⟩
  have o2 := Own.below o1 hb2 (by simp)
  have d2 := o2.cell 2
  have d3 := o2.cell 3
  cases x
  · go_wp2_with fail
    go_ret
    exact ⟨rfl, b1.trans (hb2.mono b1.size)⟩
  · go_wp2_with fail
    refine (h2 _).mono ?_
    rintro e w3 ⟨rfl, hb3⟩
    go_wp2
    go_ret
    exact ⟨rfl, (b1.trans (hb2.mono b1.size)).trans (hb3.mono (Nat.le_trans b1.size hb2.size))⟩
theorem ovR_snd (a b : Rc) : (sndR a && sndR b && ovl a.1.1 a.1.2 b.1.1 b.1.2 && ovl a.2.1 a.2.2 b.2.1 b.2.2) = ovR a b := by
  unfold ovR
  rw [Bool.eq_iff_iff]
  simp only [Bool.and_eq_true, sndR, ovl_iff]
  constructor
  · rintro ⟨⟨_, h1⟩, h2⟩; exact ⟨h1, h2⟩
  · rintro ⟨h1, h2⟩; exact ⟨⟨⟨⟨h1.1, h2.1⟩, h1.2.1, h2.2.1⟩, h1⟩, h2⟩
end Go.Proofs.YtnbeopkpkagjmaaGreat
