/-
  Contract of the statements' own examples (awake) for relations: it returns true and writes nothing old. Conditions: the table of keywords reads as the program lays it (Env).
-/
import Derived.Test.YtmmecpmeemhglaaDoorSound
import Derived.Test.YtmmecpmeemhglaaDoorCmp
import Derived.Test.YtmmecpmeemhglaaDoorInts
import Derived.Test.YtmmecpmeemhglaaDoorNames
import Derived.WalkKit
import Derived.WalkSpells
import Derived.WalkLawsBesides
import Derived.Deep.QuietTactic
import Derived.BigQuiet
import Derived.Handy
import Derived.Lib.Hide
namespace Go.Proofs.YtmmecpmeemhglaaDoor
open Go.RowKit

theorem w_rel (w : World) : Calls Tryd.prog 12 #[.agg #[.int .i64 1, .int .i64 3], .agg #[.int .i64 3, .int .i64 4]] w fun e w' => e = .returned (.tuple #[.int .i64 1, .bool true]) ∧ Below w.heap.size w w' := rel_any 1 3 3 4 w

theorem rd_lit (W : World) (l : List Int) (hl : l.length ≤ 100) : RdI (W.alloc (.cells (intsV l).toArray 3)) 0 (W.alloc (.cells (intsV l).toArray 3)).heap.size (.slice (some ⟨W.heap.size, 0, none⟩) l.length l.length) l := by
  refine ⟨_, _, rfl, by omega, fun k n hk => ⟨_, rfl, Nat.zero_le _, by simp, ?_⟩⟩
  have e : (W.alloc (.cells (intsV l).toArray 3)).cell? ⟨W.heap.size, k, none⟩ = some (.int .i64 n) := by
    rw [(Own.new W 3 (intsV l).toArray).cell k, List.getElem?_toArray]
    unfold intsV
    rw [List.getElem?_map, hk]
    rfl
  unfold Addr.add
  split
  · rename_i h; subst h; exact e
  · simpa using e
theorem tb_only (i j : Nat) (hi : i < 13) (hj : j < 13) (x : Nat) (h1 : ∀ p q r : Fin 15, relN p.val q.val = i → relN q.val r.val = j → x.testBit (relN p.val r.val) = true)
    (h2 : ∀ c : Fin 13, x.testBit c.val = true → ∃ p q r : Fin 15, relN p.val q.val = i ∧ relN q.val r.val = j ∧ relN p.val r.val = c.val) : mb (tb i j) 13 = mb x 13 := by
  refine mb_ext fun c hc => ?_
  cases hx : x.testBit c
  · cases hb : (tb i j).testBit c
    · rfl
    · obtain ⟨p, q, r, hp, hq, hr, e1, e2, rfl⟩ := (tb_bit i j c hi hj).1 hb
      rw [h1 ⟨p, hp⟩ ⟨q, hq⟩ ⟨r, hr⟩ e1 e2] at hx
      cases hx
  · obtain ⟨p, q, r, e1, e2, e3⟩ := h2 ⟨c, hc⟩ hx
    exact (tb_bit i j c hi hj).2 ⟨p, q, r, p.isLt, q.isLt, r.isLt, e1, e2, e3⟩
theorem cmp_mm : cmpL 1 1 = [0] := by
  have : mb (tb 1 1) 13 = mb 1 13 := tb_only 1 1 (by omega) (by omega) 1 (by decide +kernel) (fun c hc => by
    have hc0 : c = 0 := by revert c; decide
    subst hc0
    exact ⟨0, 2, 5, by decide, by decide, by decide⟩)
  show mb (tb 1 1) 13 = _
  rw [this]
  decide
theorem cmp_ss : cmpL 3 9 = [3, 6, 9] := by
  have : mb (tb 3 9) 13 = mb 584 13 := tb_only 3 9 (by omega) (by omega) 584 (by decide +kernel) (fun c hc => by
    have hc0 : c = 3 ∨ c = 6 ∨ c = 9 := by revert c; decide
    rcases hc0 with rfl | rfl | rfl
    · exact ⟨0, 3, 1, by decide, by decide, by decide⟩
    · exact ⟨0, 3, 0, by decide, by decide, by decide⟩
    · exact ⟨1, 3, 0, by decide, by decide, by decide⟩)
  show mb (tb 3 9) 13 = _
  rw [this]
  decide
theorem ex_rd (w : World) : RdC (((w.alloc (.cells #[.int .i64 0] 3)).alloc (.cells #[.int .i64 0] 3)).alloc (.cells #[.int .i64 0, .int .i64 1, .slice (some ⟨w.heap.size, 0, none⟩) 1 1, .int .i64 1, .int .i64 2, .slice (some ⟨w.heap.size + 1, 0, none⟩) 1 1] 50)) 0
    (((w.alloc (.cells #[.int .i64 0] 3)).alloc (.cells #[.int .i64 0] 3)).alloc (.cells #[.int .i64 0, .int .i64 1, .slice (some ⟨w.heap.size, 0, none⟩) 1 1, .int .i64 1, .int .i64 2, .slice (some ⟨w.heap.size + 1, 0, none⟩) 1 1] 50)).heap.size
    (.slice (some ⟨w.heap.size + 1 + 1, 0, none⟩) 2 2) exC := by
  have O0 := ((Own.new w 3 #[.int .i64 0]).alloc (.cells #[.int .i64 0] 3)).alloc (.cells #[.int .i64 0, .int .i64 1, .slice (some ⟨w.heap.size, 0, none⟩) 1 1, .int .i64 1, .int .i64 2, .slice (some ⟨w.heap.size + 1, 0, none⟩) 1 1] 50)
  have O1 : Own (((w.alloc (.cells #[.int .i64 0] 3)).alloc (.cells #[.int .i64 0] 3)).alloc (.cells #[.int .i64 0, .int .i64 1, .slice (some ⟨w.heap.size, 0, none⟩) 1 1, .int .i64 1, .int .i64 2, .slice (some ⟨w.heap.size + 1, 0, none⟩) 1 1] 50)) (w.heap.size + 1) 3 #[.int .i64 0] := (by have := Own.new (w.alloc (.cells #[.int .i64 0] 3)) 3 #[.int .i64 0]; rw [World.size_alloc] at this; exact this.alloc _)
  have O2 : Own (((w.alloc (.cells #[.int .i64 0] 3)).alloc (.cells #[.int .i64 0] 3)).alloc (.cells #[.int .i64 0, .int .i64 1, .slice (some ⟨w.heap.size, 0, none⟩) 1 1, .int .i64 1, .int .i64 2, .slice (some ⟨w.heap.size + 1, 0, none⟩) 1 1] 50)) (w.heap.size + 1 + 1) 50 _ := (by have := Own.new ((w.alloc (.cells #[.int .i64 0] 3)).alloc (.cells #[.int .i64 0] 3)) 50 #[.int .i64 0, .int .i64 1, .slice (some ⟨w.heap.size, 0, none⟩) 1 1, .int .i64 1, .int .i64 2, .slice (some ⟨w.heap.size + 1, 0, none⟩) 1 1]; simp only [World.size_alloc] at this; exact this)
  generalize hW : ((w.alloc (.cells #[.int .i64 0] 3)).alloc (.cells #[.int .i64 0] 3)).alloc (.cells #[.int .i64 0, .int .i64 1, .slice (some ⟨w.heap.size, 0, none⟩) 1 1, .int .i64 1, .int .i64 2, .slice (some ⟨w.heap.size + 1, 0, none⟩) 1 1] 50) = W at *
  have hz : W.heap.size = w.heap.size + 3 := by rw [← hW]; simp
  have rd : ∀ g, g < W.heap.size → W.cell? ⟨g, 0, none⟩ = some (.int .i64 0) → RdI W 0 W.heap.size (.slice (some ⟨g, 0, none⟩) 1 1) [0] := by
    intro g hg hc
    refine ⟨_, 1, rfl, by simp, fun k n hk => ⟨_, rfl, Nat.zero_le _, hg, ?_⟩⟩
    cases k with
    | zero => simp at hk; subst hk; exact hc
    | succ k => simp at hk
  refine ⟨_, 2, rfl, by decide, fun k e hk => ?_⟩
  match k, hk with
  | 0, hk =>
    simp [exC] at hk
    subst hk
    exact ⟨_, _, rfl, Nat.zero_le _, by show w.heap.size + 1 + 1 < _; omega, O2.cell 0, O2.cell 1, O2.cell 2, rd _ (by omega) (O0.cell 0)⟩
  | 1, hk =>
    simp [exC] at hk
    subst hk
    exact ⟨_, _, rfl, Nat.zero_le _, by show w.heap.size + 1 + 1 < _; omega, O2.cell 3, O2.cell 4, O2.cell 5, rd _ (by omega) (O1.cell 0)⟩
  | k + 2, hk => simp [exC] at hk
theorem per_one (W : World) (a b : Int) : RdP (W.alloc (.cells #[.int .i64 a, .int .i64 b] 23)) 0 (W.alloc (.cells #[.int .i64 a, .int .i64 b] 23)).heap.size (.slice (some ⟨W.heap.size, 0, none⟩) 1 1) [(a, b)] := by
  have O := Own.new W 23 #[.int .i64 a, .int .i64 b]
  refine ⟨_, 1, rfl, by simp, fun k p hk => ?_⟩
  match k, hk with
  | 0, hk =>
    simp at hk
    subst hk
    exact ⟨_, rfl, Nat.zero_le _, by simp, O.cell 0, O.cell 1⟩
  | k + 1, hk => simp at hk
theorem w_tight (v : Value) (w : World) (L : Nat) (hv : RdC w L w.heap.size v exC) :
    Calls Tryd.prog 25 #[.int .i64 3, v] w fun e w' => ∃ (ad : Addr) (c : Nat) (A : Option Addr) (d : Nat), e = .returned (.tuple #[.slice (some ad) 3 c, .bool true]) ∧ w.heap.size ≤ ad.block ∧ ad.block < w'.heap.size ∧
      w'.cell? ⟨ad.block, ad.off + 3 + 1, none⟩ = some (.int .i64 2) ∧ w'.cell? ⟨ad.block, ad.off + 3 + 2, none⟩ = some (.slice A 1 d) ∧ RdI w' w.heap.size w'.heap.size (.slice A 1 d) [0] ∧ Below w.heap.size w w' := by
  refine (tight_any 3 v exC w L hv).mono ?_
  rintro e w' ⟨v', b, l', rfl, hr, hb, ht⟩
  obtain ⟨rfl, r0, r2, rfl⟩ := ex_tight ht
  obtain ⟨A, c, rfl, _, hc⟩ := hr
  obtain ⟨ad, rv, rfl, h0, h1, _, h2, h3, h4⟩ := hc 1 _ rfl
  have h4' := h4
  obtain ⟨A2, d, rfl, _, _⟩ := h4
  exact ⟨ad, c, A2, d, rfl, h0, h1, h2, h3, h4', hb⟩

set_option maxRecDepth 100000 in
set_option maxHeartbeats 1600000 in
theorem awake_any (w : World) (henv : Env w) :
    Calls Tryd.prog 15 #[] w fun e w' => e = .returned (.bool true) ∧ Below w.heap.size w w' := by
  go_enter Tryd.func15, Tryd.ntmps15
  go_wp2_with fail
  refine (w_rel _).mono ?_
  rintro e w1 ⟨rfl, hb1⟩
  go_wp2_with fail
  refine (w_tight _ _ 0 (ex_rd w1)).mono ?_
  have b1 : Below w.heap.size w (((w1.alloc (.cells #[.int .i64 0] 3)).alloc (.cells #[.int .i64 0] 3)).alloc (.cells #[.int .i64 0, .int .i64 1, .slice (some ⟨w1.heap.size, 0, none⟩) 1 1, .int .i64 1, .int .i64 2, .slice (some ⟨w1.heap.size + 1, 0, none⟩) 1 1] 50)) := (by have := hb1.size; (repeat' (first | (with_reducible exact Below.refl _ _) | (with_reducible assumption) | (with_reducible refine Below.alloc ?_ ?_ _) | (with_reducible refine Below.drew ?_) | (with_reducible refine Below.setCell ?_ ?_ _) | (with_reducible refine Below.trans ?_ (Below.mono (by assumption) ?_)) | go_size)))
  have z1 := b1.size
  generalize (((w1.alloc (.cells #[.int .i64 0] 3)).alloc (.cells #[.int .i64 0] 3)).alloc (.cells #[.int .i64 0, .int .i64 1, .slice (some ⟨w1.heap.size, 0, none⟩) 1 1, .int .i64 1, .int .i64 2, .slice (some ⟨w1.heap.size + 1, 0, none⟩) 1 1] 50)) = W1 at *
  rintro e w2 ⟨ad, c2, A2, d2, rfl, hg1, hg2, k1, k2, k3, hb2⟩
  have b2 := b1.trans (hb2.mono z1)
  have z2 := b2.size
  go_wp2_with fail
  refine (cmp_rel 1 1 _).mono ?_
  rintro e w3 ⟨v3, rfl, hv3, hb3⟩
  rw [cmp_mm] at hv3
  go_wp2_with fail
  have c3 : Below w3.heap.size w3 (w3.alloc (.cells #[.int .i64 0] 3)) := (Below.refl _ _).alloc (Nat.le_refl _) _
  refine (ints_any v3 _ [0] [0] _ w2.heap.size 0 ((hv3.below c3).more (by simp) (Nat.le_refl _)) (rd_lit w3 [0] (by decide))).mono ?_
  rintro e w4 ⟨rfl, hb4⟩
  have q4 : Below w2.heap.size w2 w4 := hb3.trans ((c3.trans (hb4.mono (by simp))).mono hb3.size)
  go_wp2_with fail
  refine (cmp_rel 3 9 _).mono ?_
  rintro e w5 ⟨v5, rfl, hv5, hb5⟩
  rw [cmp_ss] at hv5
  go_wp2_with fail
  have c5 : Below w5.heap.size w5 (w5.alloc (.cells #[.int .i64 3, .int .i64 6, .int .i64 9] 3)) := (Below.refl _ _).alloc (Nat.le_refl _) _
  refine (ints_any v5 _ [3, 6, 9] [3, 6, 9] _ w4.heap.size 0 ((hv5.below c5).more (by simp) (Nat.le_refl _)) (rd_lit w5 [3, 6, 9] (by decide))).mono ?_
  rintro e w6 ⟨rfl, hb6⟩
  have q6 : Below w2.heap.size w2 w6 := q4.trans ((hb5.trans ((c5.trans (hb6.mono (by simp))).mono hb5.size)).mono q4.size)
  have k1' := (q6.cell (p := ⟨ad.block, ad.off + 3 + 1, none⟩) hg2).trans k1
  have k2' := (q6.cell (p := ⟨ad.block, ad.off + 3 + 2, none⟩) hg2).trans k2
  have k3' := k3.below q6
  go_wp2_with fail
  have c6 : Below w6.heap.size w6 (w6.alloc (.cells #[.int .i64 0] 3)) := (Below.refl _ _).alloc (Nat.le_refl _) _
  refine (ints_any _ _ [0] [0] _ w.heap.size 0 (((k3'.more q6.size (by omega)).below c6).more (by simp) (Nat.le_refl _)) (rd_lit w6 [0] (by decide))).mono ?_
  rintro e w7 ⟨rfl, hb7⟩
  have q7 : Below w.heap.size w w7 := b2.trans ((q6.trans ((c6.trans (hb7.mono (by simp))).mono q6.size)).mono z2)
  have henv7 := henv.step q7
  go_wp2_with fail
  refine (name_any 8 _ henv7).mono ?_
  rintro e w8 ⟨rfl, hb8⟩
  rw [show nameB 8 = ⟨#[67, 79, 78, 84, 65, 73, 78, 83]⟩ from by decide +kernel]
  have q8 : Below w.heap.size w w8 := q7.trans (hb8.mono q7.size)
  go_wp2_with fail
  have c8 : Below w8.heap.size w8 (w8.alloc (.cells #[.int .i64 1, .int .i64 2] 23)) := (Below.refl _ _).alloc (Nat.le_refl _) _
  refine (sat_any _ _ [(1, 2)] [] _ 0 0 (per_one w8 1 2) (RdC.none _ _ _)).mono ?_
  rintro e w9 ⟨rfl, hb9⟩
  rw [show satB [(1, 2)] [] = true from by decide]
  have q9 : Below w.heap.size w w9 := q8.trans ((c8.trans (hb9.mono (by simp))).mono q8.size)
  go_wp2_with fail
  go_ret
  exact ⟨rfl, q9⟩
end Go.Proofs.YtmmecpmeemhglaaDoor
