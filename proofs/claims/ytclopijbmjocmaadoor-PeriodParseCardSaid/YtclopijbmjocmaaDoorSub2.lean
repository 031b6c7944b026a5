/-
  Contract of the program's Subtract on periods: the slice that is returned holds the pieces that the definition gives. Conditions: none.
-/
import Derived.Test.YtclopijbmjocmaaDoorSub
import Derived.WalkKit
import Derived.WalkSpells
import Derived.WalkLawsBesides
import Derived.Deep.QuietTactic
import Derived.BigQuiet
import Derived.Handy
import Derived.Lib.Hide
namespace Go.Proofs.YtclopijbmjocmaaDoor
open Go.RowKit

theorem isect_case {a b c d x y : Int} (w : World) (h : ovl a b c d = true) (hx : max a c = x) (hy : min b d = y) :
    Calls Tryd.prog 20 #[.agg #[.int .i64 a, .int .i64 b], .agg #[.int .i64 c, .int .i64 d]] w fun e w' => e = .returned (.tuple #[.agg #[.int .i64 x, .int .i64 y], .bool true]) ∧ Below w.heap.size w w' := by
  subst hx; subst hy; exact intersect_yes a b c d w h

theorem own_below {W w1 : World} {base e size n : Nat} {v : Value} {xs : List Value} (h : W.ownsRow base e size v n xs) (hb : Below W.heap.size W w1) : w1.ownsRow base e size v n xs :=
  h.kept (row := none) ⟨hb.os, hb.tape, hb.output, hb.size, fun j hj _ => hb.block j hj⟩ (by cases hv : v.ownBlock <;> simp)
theorem one_case' (W : World) (a b : Int) (n : Nat) (h : n = W.heap.size) : PerSl (W.alloc (.cells #[.int .i64 a, .int .i64 b] 23)) (W.alloc (.cells #[.int .i64 a, .int .i64 b] 23)).heap.size (.slice (some ⟨n, 0, none⟩) 1 1) [(a, b)] := by
  subst h; exact one_case W a b
theorem idx0 (a x y b : Int) (w : World) : (Instr.index 41 (.agg #[.int .i64 a, .int .i64 x, .int .i64 y, .int .i64 b]) (.int .i64 0)).run Tryd.prog w = .ok (.agg #[.int .i64 a, .int .i64 x]) w := by kernel_rfl
theorem idx1 (a x y b : Int) (w : World) : (Instr.index 41 (.agg #[.int .i64 a, .int .i64 x, .int .i64 y, .int .i64 b]) (.int .i64 1)).run Tryd.prog w = .ok (.agg #[.int .i64 y, .int .i64 b]) w := by kernel_rfl

set_option maxHeartbeats 800000 in
theorem sub_tt (a b c d x y : Int) (w : World) (h1 : vld a b = true) (h2 : ovl a b c d = true) (hx : Hid (max a c = x)) (hy : Hid (min b d = y)) (h3 : vld a x = true) (h4 : vld y b = true) :
    Calls Tryd.prog 25 #[.agg #[.int .i64 a, .int .i64 b], .agg #[.int .i64 c, .int .i64 d]] w (RetSl w [(a, x), (y, b)]) := by
  have i0 := idx0 a x y b
  have i1 := idx1 a x y b
  go_enter Tryd.func25, Tryd.ntmps25
  go_wp2_with (first | (go_at_call 9; refine (valid_any _ _ _).mono ?_; rintro e w1 ⟨rfl, hb⟩; obtain ⟨hc, hf⟩ := bcell hb; have hz := hb.size; (try simp only [World.size_alloc] at hz); have hz0 : w.heap.size < w1.heap.size := (by omega); have hz1 : w.heap.size + 1 < w1.heap.size := (by omega)) | (go_at_call 20; refine (isect_case _ h2 hx.out hy.out).mono ?_; rintro e w1 ⟨rfl, hb⟩; obtain ⟨hc, hf⟩ := bcell hb; have hz := hb.size; (try simp only [World.size_alloc] at hz); have hz0 : w.heap.size < w1.heap.size := (by omega); have hz1 : w.heap.size + 1 < w1.heap.size := (by omega)))
  refine wp_loop_rounds 3 ?_
  rw [rounds_succ]
  go_wp2_with (first | (go_at_call 9; refine (valid_any _ _ _).mono ?_; rintro e w1 ⟨rfl, hb⟩; obtain ⟨hc, hf⟩ := bcell hb; have hz := hb.size; (try simp only [World.size_alloc] at hz); have hz0 : w.heap.size < w1.heap.size := (by omega); have hz1 : w.heap.size + 1 < w1.heap.size := (by omega)) | (go_at_call 20; refine (isect_case _ h2 hx.out hy.out).mono ?_; rintro e w1 ⟨rfl, hb⟩; obtain ⟨hc, hf⟩ := bcell hb; have hz := hb.size; (try simp only [World.size_alloc] at hz); have hz0 : w.heap.size < w1.heap.size := (by omega); have hz1 : w.heap.size + 1 < w1.heap.size := (by omega)) | (at_builtin; refine append_per _ rfl _ _ rfl (w.heap.size + 2) _ [] rfl (World.ownsRow.alloc (own_nil _ _) _) ⟨w1.heap.size, 0, none⟩ a x rfl (cell_two_new _ _ _ _) ?_ ?_ ?_; (focus (first | omega | (simp; done) | (simp; omega))); (focus go_size); intro v1 w1 hown hb; obtain ⟨hc, hf⟩ := bcellB hb; have hz := hb.size; (try simp only [World.size_alloc] at hz); have hz0 : w.heap.size < w1.heap.size := (by omega); have hz1 : w.heap.size + 1 < w1.heap.size := (by omega)))
  rw [rounds_succ]
  go_wp2_with (first | (go_at_call 9; refine (valid_any _ _ _).mono ?_; rintro e w1 ⟨rfl, hb⟩; obtain ⟨hc, hf⟩ := bcell hb; have hz := hb.size; (try simp only [World.size_alloc] at hz); have hz0 : w.heap.size < w1.heap.size := (by omega); have hz1 : w.heap.size + 1 < w1.heap.size := (by omega)) | (go_at_call 20; refine (isect_case _ h2 hx.out hy.out).mono ?_; rintro e w1 ⟨rfl, hb⟩; obtain ⟨hc, hf⟩ := bcell hb; have hz := hb.size; (try simp only [World.size_alloc] at hz); have hz0 : w.heap.size < w1.heap.size := (by omega); have hz1 : w.heap.size + 1 < w1.heap.size := (by omega)) | (at_builtin; refine append_per _ rfl _ _ rfl (w.heap.size + 2) _ _ rfl (World.ownsRow.alloc (own_below (World.ownsRow.alloc hown _) hb) _) ⟨w1.heap.size, 0, none⟩ y b rfl (cell_two_new _ _ _ _) ?_ ?_ ?_; (focus (first | omega | (simp; done) | (simp; omega))); (focus go_size); intro v1 w1 hown hb; obtain ⟨hc, hf⟩ := bcellB hb; have hz := hb.size; (try simp only [World.size_alloc] at hz); have hz0 : w.heap.size < w1.heap.size := (by omega); have hz1 : w.heap.size + 1 < w1.heap.size := (by omega)))
  rw [rounds_succ]
  go_wp2
  go_ret
  refine ⟨_, rfl, PerSl.of_own hown (by simp), ?_⟩
  (repeat' (first | (with_reducible exact Below.refl _ _) | (with_reducible assumption) | (with_reducible refine Below.alloc ?_ ?_ _) | (with_reducible refine Below.drew ?_) | (with_reducible refine Below.setCell ?_ ?_ _) | (with_reducible refine Below.trans ?_ (Below.mono (by assumption) ?_)) | go_size))

set_option maxHeartbeats 800000 in
theorem sub_tf (a b c d x y : Int) (w : World) (h1 : vld a b = true) (h2 : ovl a b c d = true) (hx : Hid (max a c = x)) (hy : Hid (min b d = y)) (h3 : vld a x = true) (h4 : vld y b = false) :
    Calls Tryd.prog 25 #[.agg #[.int .i64 a, .int .i64 b], .agg #[.int .i64 c, .int .i64 d]] w (RetSl w [(a, x)]) := by
  have i0 := idx0 a x y b
  have i1 := idx1 a x y b
  go_enter Tryd.func25, Tryd.ntmps25
  go_wp2_with (first | (go_at_call 9; refine (valid_any _ _ _).mono ?_; rintro e w1 ⟨rfl, hb⟩; obtain ⟨hc, hf⟩ := bcell hb; have hz := hb.size; (try simp only [World.size_alloc] at hz); have hz0 : w.heap.size < w1.heap.size := (by omega); have hz1 : w.heap.size + 1 < w1.heap.size := (by omega)) | (go_at_call 20; refine (isect_case _ h2 hx.out hy.out).mono ?_; rintro e w1 ⟨rfl, hb⟩; obtain ⟨hc, hf⟩ := bcell hb; have hz := hb.size; (try simp only [World.size_alloc] at hz); have hz0 : w.heap.size < w1.heap.size := (by omega); have hz1 : w.heap.size + 1 < w1.heap.size := (by omega)))
  refine wp_loop_rounds 3 ?_
  rw [rounds_succ]
  go_wp2_with (first | (go_at_call 9; refine (valid_any _ _ _).mono ?_; rintro e w1 ⟨rfl, hb⟩; obtain ⟨hc, hf⟩ := bcell hb; have hz := hb.size; (try simp only [World.size_alloc] at hz); have hz0 : w.heap.size < w1.heap.size := (by omega); have hz1 : w.heap.size + 1 < w1.heap.size := (by omega)) | (go_at_call 20; refine (isect_case _ h2 hx.out hy.out).mono ?_; rintro e w1 ⟨rfl, hb⟩; obtain ⟨hc, hf⟩ := bcell hb; have hz := hb.size; (try simp only [World.size_alloc] at hz); have hz0 : w.heap.size < w1.heap.size := (by omega); have hz1 : w.heap.size + 1 < w1.heap.size := (by omega)) | (at_builtin; refine append_per _ rfl _ _ rfl (w.heap.size + 2) _ [] rfl (World.ownsRow.alloc (own_nil _ _) _) ⟨w1.heap.size, 0, none⟩ a x rfl (cell_two_new _ _ _ _) ?_ ?_ ?_; (focus (first | omega | (simp; done) | (simp; omega))); (focus go_size); intro v1 w1 hown hb; obtain ⟨hc, hf⟩ := bcellB hb; have hz := hb.size; (try simp only [World.size_alloc] at hz); have hz0 : w.heap.size < w1.heap.size := (by omega); have hz1 : w.heap.size + 1 < w1.heap.size := (by omega)))
  rw [rounds_succ]
  go_wp2_with (first | (go_at_call 9; refine (valid_any _ _ _).mono ?_; rintro e w1 ⟨rfl, hb⟩; obtain ⟨hc, hf⟩ := bcell hb; have hz := hb.size; (try simp only [World.size_alloc] at hz); have hz0 : w.heap.size < w1.heap.size := (by omega); have hz1 : w.heap.size + 1 < w1.heap.size := (by omega)) | (go_at_call 20; refine (isect_case _ h2 hx.out hy.out).mono ?_; rintro e w1 ⟨rfl, hb⟩; obtain ⟨hc, hf⟩ := bcell hb; have hz := hb.size; (try simp only [World.size_alloc] at hz); have hz0 : w.heap.size < w1.heap.size := (by omega); have hz1 : w.heap.size + 1 < w1.heap.size := (by omega)))
  rw [rounds_succ]
  go_wp2
  go_ret
  refine ⟨_, rfl, PerSl.of_own (own_below (World.ownsRow.alloc hown _) hb) (by simp), ?_⟩
  (repeat' (first | (with_reducible exact Below.refl _ _) | (with_reducible assumption) | (with_reducible refine Below.alloc ?_ ?_ _) | (with_reducible refine Below.drew ?_) | (with_reducible refine Below.setCell ?_ ?_ _) | (with_reducible refine Below.trans ?_ (Below.mono (by assumption) ?_)) | go_size))

set_option maxHeartbeats 800000 in
theorem sub_ft (a b c d x y : Int) (w : World) (h1 : vld a b = true) (h2 : ovl a b c d = true) (hx : Hid (max a c = x)) (hy : Hid (min b d = y)) (h3 : vld a x = false) (h4 : vld y b = true) :
    Calls Tryd.prog 25 #[.agg #[.int .i64 a, .int .i64 b], .agg #[.int .i64 c, .int .i64 d]] w (RetSl w [(y, b)]) := by
  have i0 := idx0 a x y b
  have i1 := idx1 a x y b
  go_enter Tryd.func25, Tryd.ntmps25
  go_wp2_with (first | (go_at_call 9; refine (valid_any _ _ _).mono ?_; rintro e w1 ⟨rfl, hb⟩; obtain ⟨hc, hf⟩ := bcell hb; have hz := hb.size; (try simp only [World.size_alloc] at hz); have hz0 : w.heap.size < w1.heap.size := (by omega); have hz1 : w.heap.size + 1 < w1.heap.size := (by omega)) | (go_at_call 20; refine (isect_case _ h2 hx.out hy.out).mono ?_; rintro e w1 ⟨rfl, hb⟩; obtain ⟨hc, hf⟩ := bcell hb; have hz := hb.size; (try simp only [World.size_alloc] at hz); have hz0 : w.heap.size < w1.heap.size := (by omega); have hz1 : w.heap.size + 1 < w1.heap.size := (by omega)))
  refine wp_loop_rounds 3 ?_
  rw [rounds_succ]
  go_wp2_with (first | (go_at_call 9; refine (valid_any _ _ _).mono ?_; rintro e w1 ⟨rfl, hb⟩; obtain ⟨hc, hf⟩ := bcell hb; have hz := hb.size; (try simp only [World.size_alloc] at hz); have hz0 : w.heap.size < w1.heap.size := (by omega); have hz1 : w.heap.size + 1 < w1.heap.size := (by omega)) | (go_at_call 20; refine (isect_case _ h2 hx.out hy.out).mono ?_; rintro e w1 ⟨rfl, hb⟩; obtain ⟨hc, hf⟩ := bcell hb; have hz := hb.size; (try simp only [World.size_alloc] at hz); have hz0 : w.heap.size < w1.heap.size := (by omega); have hz1 : w.heap.size + 1 < w1.heap.size := (by omega)))
  rw [rounds_succ]
  go_wp2_with (first | (go_at_call 9; refine (valid_any _ _ _).mono ?_; rintro e w1 ⟨rfl, hb⟩; obtain ⟨hc, hf⟩ := bcell hb; have hz := hb.size; (try simp only [World.size_alloc] at hz); have hz0 : w.heap.size < w1.heap.size := (by omega); have hz1 : w.heap.size + 1 < w1.heap.size := (by omega)) | (go_at_call 20; refine (isect_case _ h2 hx.out hy.out).mono ?_; rintro e w1 ⟨rfl, hb⟩; obtain ⟨hc, hf⟩ := bcell hb; have hz := hb.size; (try simp only [World.size_alloc] at hz); have hz0 : w.heap.size < w1.heap.size := (by omega); have hz1 : w.heap.size + 1 < w1.heap.size := (by omega)) | (at_builtin; refine append_per _ rfl _ _ rfl (w.heap.size + 2) _ [] rfl (World.ownsRow.alloc (own_nil _ _) _) ⟨w1.heap.size, 0, none⟩ y b rfl (cell_two_new _ _ _ _) ?_ ?_ ?_; (focus (first | omega | (simp; done) | (simp; omega))); (focus go_size); intro v1 w1 hown hb; obtain ⟨hc, hf⟩ := bcellB hb; have hz := hb.size; (try simp only [World.size_alloc] at hz); have hz0 : w.heap.size < w1.heap.size := (by omega); have hz1 : w.heap.size + 1 < w1.heap.size := (by omega)))
  rw [rounds_succ]
  go_wp2
  go_ret
  refine ⟨_, rfl, PerSl.of_own hown (by simp), ?_⟩
  (repeat' (first | (with_reducible exact Below.refl _ _) | (with_reducible assumption) | (with_reducible refine Below.alloc ?_ ?_ _) | (with_reducible refine Below.drew ?_) | (with_reducible refine Below.setCell ?_ ?_ _) | (with_reducible refine Below.trans ?_ (Below.mono (by assumption) ?_)) | go_size))

set_option maxHeartbeats 800000 in
theorem sub_ff (a b c d x y : Int) (w : World) (h1 : vld a b = true) (h2 : ovl a b c d = true) (hx : Hid (max a c = x)) (hy : Hid (min b d = y)) (h3 : vld a x = false) (h4 : vld y b = false) :
    Calls Tryd.prog 25 #[.agg #[.int .i64 a, .int .i64 b], .agg #[.int .i64 c, .int .i64 d]] w (RetSl w []) := by
  have i0 := idx0 a x y b
  have i1 := idx1 a x y b
  go_enter Tryd.func25, Tryd.ntmps25
  go_wp2_with (first | (go_at_call 9; refine (valid_any _ _ _).mono ?_; rintro e w1 ⟨rfl, hb⟩; obtain ⟨hc, hf⟩ := bcell hb; have hz := hb.size; (try simp only [World.size_alloc] at hz); have hz0 : w.heap.size < w1.heap.size := (by omega); have hz1 : w.heap.size + 1 < w1.heap.size := (by omega)) | (go_at_call 20; refine (isect_case _ h2 hx.out hy.out).mono ?_; rintro e w1 ⟨rfl, hb⟩; obtain ⟨hc, hf⟩ := bcell hb; have hz := hb.size; (try simp only [World.size_alloc] at hz); have hz0 : w.heap.size < w1.heap.size := (by omega); have hz1 : w.heap.size + 1 < w1.heap.size := (by omega)))
  refine wp_loop_rounds 3 ?_
  rw [rounds_succ]
  go_wp2_with (first | (go_at_call 9; refine (valid_any _ _ _).mono ?_; rintro e w1 ⟨rfl, hb⟩; obtain ⟨hc, hf⟩ := bcell hb; have hz := hb.size; (try simp only [World.size_alloc] at hz); have hz0 : w.heap.size < w1.heap.size := (by omega); have hz1 : w.heap.size + 1 < w1.heap.size := (by omega)) | (go_at_call 20; refine (isect_case _ h2 hx.out hy.out).mono ?_; rintro e w1 ⟨rfl, hb⟩; obtain ⟨hc, hf⟩ := bcell hb; have hz := hb.size; (try simp only [World.size_alloc] at hz); have hz0 : w.heap.size < w1.heap.size := (by omega); have hz1 : w.heap.size + 1 < w1.heap.size := (by omega)))
  rw [rounds_succ]
  go_wp2_with (first | (go_at_call 9; refine (valid_any _ _ _).mono ?_; rintro e w1 ⟨rfl, hb⟩; obtain ⟨hc, hf⟩ := bcell hb; have hz := hb.size; (try simp only [World.size_alloc] at hz); have hz0 : w.heap.size < w1.heap.size := (by omega); have hz1 : w.heap.size + 1 < w1.heap.size := (by omega)) | (go_at_call 20; refine (isect_case _ h2 hx.out hy.out).mono ?_; rintro e w1 ⟨rfl, hb⟩; obtain ⟨hc, hf⟩ := bcell hb; have hz := hb.size; (try simp only [World.size_alloc] at hz); have hz0 : w.heap.size < w1.heap.size := (by omega); have hz1 : w.heap.size + 1 < w1.heap.size := (by omega)))
  rw [rounds_succ]
  go_wp2
  go_ret
  refine ⟨_, rfl, .inl ⟨rfl, _, _, rfl⟩, ?_⟩
  (repeat' (first | (with_reducible exact Below.refl _ _) | (with_reducible assumption) | (with_reducible refine Below.alloc ?_ ?_ _) | (with_reducible refine Below.drew ?_) | (with_reducible refine Below.setCell ?_ ?_ _) | (with_reducible refine Below.trans ?_ (Below.mono (by assumption) ?_)) | go_size))

theorem sub_any (a b c d : Int) (w : World) :
    Calls Tryd.prog 25 #[.agg #[.int .i64 a, .int .i64 b], .agg #[.int .i64 c, .int .i64 d]] w (RetSl w (subP a b c d)) := by
  unfold subP
  cases h1 : vld a b
  · rw [if_pos rfl]
    go_enter Tryd.func25, Tryd.ntmps25
    go_wp2_with (go_at_call 9; refine (valid_any _ _ _).mono ?_; rintro e w1 ⟨rfl, hb⟩; obtain ⟨hc, hf⟩ := bcell hb; have hz := hb.size; (try simp only [World.size_alloc] at hz); have hz0 : w.heap.size < w1.heap.size := (by omega); have hz1 : w.heap.size + 1 < w1.heap.size := (by omega))
    go_ret
    refine ⟨_, rfl, .inl ⟨rfl, _, _, rfl⟩, ?_⟩
    (repeat' (first | (with_reducible exact Below.refl _ _) | (with_reducible assumption) | (with_reducible refine Below.alloc ?_ ?_ _) | (with_reducible refine Below.drew ?_) | (with_reducible refine Below.setCell ?_ ?_ _) | (with_reducible refine Below.trans ?_ (Below.mono (by assumption) ?_)) | go_size))
  · rw [if_neg (by decide)]
    cases h2 : ovl a b c d
    · rw [if_pos rfl]
      go_enter Tryd.func25, Tryd.ntmps25
      go_wp2_with (first | (go_at_call 9; refine (valid_any _ _ _).mono ?_; rintro e w1 ⟨rfl, hb⟩; obtain ⟨hc, hf⟩ := bcell hb; have hz := hb.size; (try simp only [World.size_alloc] at hz); have hz0 : w.heap.size < w1.heap.size := (by omega); have hz1 : w.heap.size + 1 < w1.heap.size := (by omega)) | (go_at_call 20; refine (intersect_no _ _ _ _ _ h2).mono ?_; rintro e w1 ⟨rfl, hb⟩; obtain ⟨hc, hf⟩ := bcell hb; have hz := hb.size; (try simp only [World.size_alloc] at hz); have hz0 : w.heap.size < w1.heap.size := (by omega); have hz1 : w.heap.size + 1 < w1.heap.size := (by omega)))
      go_ret
      refine ⟨_, rfl, one_case' _ _ _ _ (by simp), ?_⟩
      (repeat' (first | (with_reducible exact Below.refl _ _) | (with_reducible assumption) | (with_reducible refine Below.alloc ?_ ?_ _) | (with_reducible refine Below.drew ?_) | (with_reducible refine Below.setCell ?_ ?_ _) | (with_reducible refine Below.trans ?_ (Below.mono (by assumption) ?_)) | go_size))
    · rw [if_neg (by decide)]
      obtain ⟨hv, hv', ho1, ho2⟩ := ovl_parts h2
      obtain ⟨k1, k2, k3⟩ := vld_le hv
      obtain ⟨k4, k5, k6⟩ := vld_le hv'
      by_cases h3 : a < c <;> by_cases h4 : d < b
      · rw [if_pos h3, if_pos h4]
        exact sub_tt a b c d c d w h1 h2 (Lib.hid (by omega)) (Lib.hid (by omega)) (vld_mk (by omega) (by omega) (by omega)) (vld_mk (by omega) (by omega) (by omega))
      · rw [if_pos h3, if_neg h4]
        exact sub_tf a b c d c b w h1 h2 (Lib.hid (by omega)) (Lib.hid (by omega)) (vld_mk (by omega) (by omega) (by omega)) (vld_irr _)
      · rw [if_neg h3, if_pos h4]
        exact sub_ft a b c d a d w h1 h2 (Lib.hid (by omega)) (Lib.hid (by omega)) (vld_irr _) (vld_mk (by omega) (by omega) (by omega))
      · rw [if_neg h3, if_neg h4]
        exact sub_ff a b c d a b w h1 h2 (Lib.hid (by omega)) (Lib.hid (by omega)) (vld_irr _) (vld_irr _)
end Go.Proofs.YtclopijbmjocmaaDoor
