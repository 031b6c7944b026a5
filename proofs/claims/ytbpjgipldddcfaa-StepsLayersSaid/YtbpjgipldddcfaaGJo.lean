import Derived.Test.YtbpjgipldddcfaaGRf
import Derived.Deep.Onto
import Derived.WalkKit
import Derived.WalkSpells
import Derived.WalkLawsBesides
import Derived.Deep.QuietTactic
import Derived.BigQuiet
import Derived.Handy
import Derived.Lib.Hide
/-
  Contract of the reference's Join: a period is appended to a span of the caller's own, or grows its last one. Conditions: the list holds at most a million periods.
-/
namespace Go.Proofs.Ytbpjgipldddcfaa
set_option maxRecDepth 100000
set_option linter.unusedVariables false
set_option linter.unusedSimpArgs false
open Go.RowKit

theorem flatP_take (l : List (Int × Int)) (k : Nat) : (flatP l).take (k * 2) = flatP (l.take k) := by
  induction l generalizing k with
  | nil => simp [flatP]
  | cons p l ih =>
    cases k with
    | zero => simp [flatP]
    | succ k =>
      rw [show (k + 1) * 2 = k * 2 + 1 + 1 by omega]
      have := ih k
      simp only [flatP, List.flatMap_cons, List.take_succ_cons, List.cons_append, List.nil_append] at this ⊢
      rw [this]

set_option maxRecDepth 100000 in
set_option maxHeartbeats 1600000 in
/-- Join appends to a row of the caller's own. -/
theorem join_any (v : Value) (l : List (Int × Int)) (a b : Int) (w : World) (base : Nat) (hown : w.ownsRow base 33 2 v l.length (flatP l)) (hbase : base ≤ w.heap.size) (hlen : l.length ≤ 1000000) :
    Calls Try.prog 24 #[v, .agg #[.int .i64 a, .int .i64 b]] w fun e w' => ∃ v', e = .returned v' ∧ w'.ownsRow base 33 2 v' (rstep l (a, b)).length (flatP (rstep l (a, b))) ∧ Below base w w' := by
  rcases List.eq_nil_or_concat l with rfl | ⟨m, q, rfl⟩
  · have HO := Lib.hid hown
    rcases own_get hown with ⟨rfl, _⟩ | ⟨g, c, rfl, hbg, hg, _, _⟩
    all_goals
      clear hown
      have oW := Own.new w 33 #[.int .i64 a, .int .i64 b]
      have bW : Below w.heap.size w (w.alloc (.cells #[.int .i64 a, .int .i64 b] 33)) := (Below.refl _ _).alloc (Nat.le_refl _) _
      have sW : w.heap.size < (w.alloc (.cells #[.int .i64 a, .int .i64 b] 33)).heap.size := by simp
      have HO1 := Lib.hid (World.ownsRow.alloc HO.out (.cells #[.int .i64 a, .int .i64 b] 33))
      go_enter Try.func24, Try.ntmps24
      go_wp2
      generalize w.alloc (.cells #[.int .i64 a, .int .i64 b] 33) = W at *
      (refine wp_region_after (by kernel_rfl) (by kernel_rfl) ?_; (repeat (go_big_quiet_step (fail))); refine wpQuiet_nil ?_; intro wq hw0; obtain ⟨⟨wq0, hbq⟩, hw1⟩ := hw0; subst hw1; (try dsimp only))
      have hbB := bW.trans (hbq.mono bW.size)
      have hzB : base ≤ wq.heap.size := Nat.le_trans hbase hbB.size
      have HOq := Lib.hid (own_below HO1.out hbq)
      have d0 : wq.cell? ⟨w.heap.size, 0, none⟩ = some (.int .i64 a) := (hbq.cell (p := ⟨w.heap.size, 0, none⟩) sW).trans (oW.cell 0)
      have d1 : wq.cell? ⟨w.heap.size, 1, none⟩ = some (.int .i64 b) := (hbq.cell (p := ⟨w.heap.size, 1, none⟩) sW).trans (oW.cell 1)
      go_wp2_with (at_builtin; refine append_per _ rfl _ _ rfl base _ [] rfl (World.ownsRow.alloc HOq.out _) ⟨wq.heap.size, 0, none⟩ a b rfl (cell_two_new _ _ _ _) ?_ ?_ ?_; (focus (simp)); (focus go_size); intro v1 w1 hown1 hb1)
      go_ret
      refine ⟨_, rfl, hown1, ?_⟩
      have hzb := hbB.size
      exact (hbB.mono hbase).trans (((Below.refl base wq).alloc (by omega) _).trans hb1)
  · rw [List.concat_eq_append] at *
    obtain ⟨x, y⟩ := q
    have HO := Lib.hid hown
    rcases own_get hown with ⟨_, h0⟩ | ⟨g, c, rfl, hbg, hg, hnc, hcell⟩
    · simp at h0
    · rw [List.length_append, List.length_singleton] at *
      obtain ⟨k0, k1⟩ := flatP_get (m ++ [(x, y)]) m.length (x, y) (by simp)
      have c0 := hcell _ _ k0
      have c1 := hcell _ _ k1
      have hR : Hid (rstep (m ++ [(x, y)]) (a, b) = if y ≥ a then m ++ [(x, max y b)] else m ++ [(x, y)] ++ [(a, b)]) := Lib.hid (by unfold rstep; rw [show (m ++ [(x, y)]).getLast? = some (x, y) by simp]; simp only [List.dropLast_concat])
      have hTK := Lib.hid hcell
      clear hcell k0 k1 hown
      have hml : m.length ≤ 1000000 := by omega
      have hmc : m.length ≤ c := by omega
      have hmc2 : (m.length : Int) ≤ (c : Int) := by omega
      have oW := Own.new w 33 #[.int .i64 a, .int .i64 b]
      have bW : Below w.heap.size w (w.alloc (.cells #[.int .i64 a, .int .i64 b] 33)) := (Below.refl _ _).alloc (Nat.le_refl _) _
      have sW : w.heap.size < (w.alloc (.cells #[.int .i64 a, .int .i64 b] 33)).heap.size := by simp
      have cc0 := (bW.cell (p := ⟨g, m.length * 2, none⟩) hg).trans c0
      have cc1 := (bW.cell (p := ⟨g, m.length * 2 + 1, none⟩) hg).trans c1
      have HO1 := Lib.hid (World.ownsRow.alloc HO.out (.cells #[.int .i64 a, .int .i64 b] 33))
      have i1 : IntKind.i64.wrap ((m.length : Int) + 1 - 1) = m.length := by rw [show (m.length : Int) + 1 - 1 = m.length by omega]; exact IntWalk.i64_in _ (by omega)
      have i7 : IntKind.i64.wrap (m.length : Int) = m.length := IntWalk.i64_in _ (by omega)
      have i2 : (0 : Int) ≤ (m.length : Int) := by omega
      have i3 : (m.length : Int) < (m.length : Int) + 1 := by omega
      clear c0 c1
      by_cases hya : y ≥ a
      · rw [if_pos hya] at hR
        by_cases hyb : y < b
        · rw [show max y b = b by omega] at hR
          have hyd : decide (y < b) = true := by simp [hyb]
          go_enter Try.func24, Try.ntmps24
          go_wp2
          generalize w.alloc (.cells #[.int .i64 a, .int .i64 b] 33) = W at *
          have f0 : ∀ p : After W, p.w.cell? ⟨w.heap.size, 0, none⟩ = some (.int .i64 a) := after_cell sW (oW.cell 0)
          have f2 : ∀ p : After W, p.w.cell? ⟨g, m.length * 2 + 1, none⟩ = some (.int .i64 y) := after_cell (Nat.lt_trans hg sW) cc1
          (refine wp_region_after (by kernel_rfl) (by kernel_rfl) ?_; (repeat (go_big_quiet_step (fail))); refine wpQuiet_nil ?_; intro wq hw0; obtain ⟨⟨wq0, hbq⟩, hw1⟩ := hw0; subst hw1; (try dsimp only))
          have hbB := bW.trans (hbq.mono bW.size)
          have hzB : base ≤ wq.heap.size := Nat.le_trans hbase hbB.size
          have HOq := Lib.hid (own_below HO1.out hbq)
          have hnews : Hid (∀ j u, (flatP m)[j]? = some u → wq.cell? ((⟨g, 0, none⟩ : Addr).add j) = some u) := Lib.hid (fun j u hu => by
            rw [plain_add]
            refine (hbB.cell (p := ⟨g, j, none⟩) hg).trans (hTK.out j u ?_)
            rw [flatP_append]
            rw [List.getElem?_append_left (List.getElem?_eq_some_iff.1 hu).1]
            exact hu)
          go_wp2_with (at_builtin; go_loud (refine append_pers _ rfl _ _ rfl wq.heap.size _ [] rfl (own_nilP _ _) ⟨g, 0, none⟩ m _ rfl hnews.out ?_ ?_ ?_; (focus (simp; omega)); (focus go_size); intro v1 w1 hown1 hb1))
          have hzq := hbq.size
          have hz11 := hb1.size
          have hS : Hid (∀ w' : World, Below wq.heap.size wq w' → w'.cell? ⟨w.heap.size, 1, none⟩ = some (.int .i64 b) ∧ w'.cell? ⟨g, m.length * 2, none⟩ = some (.int .i64 x) ∧ w'.cell? ⟨g, m.length * 2 + 1, none⟩ = some (.int .i64 y)) := Lib.hid (fun w' hb => by
            have h1 := hbq.trans (hb.mono hzq)
            exact ⟨(h1.cell (p := ⟨w.heap.size, 1, none⟩) sW).trans (oW.cell 1), (h1.cell (p := ⟨g, m.length * 2, none⟩) (Nat.lt_trans hg sW)).trans cc0, (h1.cell (p := ⟨g, m.length * 2 + 1, none⟩) (Nat.lt_trans hg sW)).trans cc1⟩)
          have HW1 := Lib.hid hown1
          rw [List.nil_append] at HW1
          clear f0 f2 hown1
          have hK0 : w1.drew.cell? ⟨w.heap.size, 1, none⟩ = some (.int .i64 b) ∧ w1.drew.cell? ⟨g, m.length * 2, none⟩ = some (.int .i64 x) ∧ w1.drew.cell? ⟨g, m.length * 2 + 1, none⟩ = some (.int .i64 y) := hS.out _ (by (repeat' (first | (with_reducible exact Below.refl _ _) | (with_reducible assumption) | (with_reducible refine Below.alloc ?_ ?_ _) | (with_reducible refine Below.drew ?_) | (with_reducible refine Below.setCell ?_ ?_ _) | (with_reducible refine Below.trans ?_ (Below.mono (by assumption) ?_)) | go_size)))
          go_region_held3 (fun w' => w'.cell? ⟨w.heap.size, 1, none⟩ = some (.int .i64 b) ∧ w'.cell? ⟨g, m.length * 2, none⟩ = some (.int .i64 x) ∧ w'.cell? ⟨g, m.length * 2 + 1, none⟩ = some (.int .i64 y))
            (first | exact hS.out _ (by (repeat' (first | (with_reducible exact Below.refl _ _) | (with_reducible assumption) | (with_reducible refine Below.alloc ?_ ?_ _) | (with_reducible refine Below.drew ?_) | (with_reducible refine Below.setCell ?_ ?_ _) | (with_reducible refine Below.trans ?_ (Below.mono (by assumption) ?_)) | go_size))))
            ((refine step_append_per _ (by rfl) _ _ (by rfl) wq.heap.size _ m (by rfl) (World.ownsRow.alloc (World.ownsRow.drew HW1.out) _) ⟨w1.heap.size, 0, none⟩ x b (by rfl) (cell_two_new _ _ _ _) ?_ ?_ ?_; (focus omega); (focus go_size); intro v3 w3 hown3 hb3))
          have hb4 : Below wq.heap.size wq w3 := (by (repeat' (first | (with_reducible exact Below.refl _ _) | (with_reducible assumption) | (with_reducible refine Below.alloc ?_ ?_ _) | (with_reducible refine Below.drew ?_) | (with_reducible refine Below.setCell ?_ ?_ _) | (with_reducible refine Below.trans ?_ (Below.mono (by assumption) ?_)) | go_size)))
          go_wp2
          go_ret
          rw [hR.out]
          exact ⟨_, rfl, World.ownsRow.mono hown3 (Nat.le_trans hbase hbB.size), (hbB.mono hbase).trans (hb4.mono (Nat.le_trans hbase hbB.size))⟩
        · rw [show max y b = y by omega] at hR
          have hyd : (y < b) = False := by simp; omega
          go_enter Try.func24, Try.ntmps24
          go_wp2
          generalize w.alloc (.cells #[.int .i64 a, .int .i64 b] 33) = W at *
          have f0 : ∀ p : After W, p.w.cell? ⟨w.heap.size, 0, none⟩ = some (.int .i64 a) := after_cell sW (oW.cell 0)
          have f2 : ∀ p : After W, p.w.cell? ⟨g, m.length * 2 + 1, none⟩ = some (.int .i64 y) := after_cell (Nat.lt_trans hg sW) cc1
          (refine wp_region_after (by kernel_rfl) (by kernel_rfl) ?_; (repeat (go_big_quiet_step (fail))); refine wpQuiet_nil ?_; intro wq hw0; obtain ⟨⟨wq0, hbq⟩, hw1⟩ := hw0; subst hw1; (try dsimp only))
          have hbB := bW.trans (hbq.mono bW.size)
          have hzB : base ≤ wq.heap.size := Nat.le_trans hbase hbB.size
          have HOq := Lib.hid (own_below HO1.out hbq)
          have hnews : Hid (∀ j u, (flatP m)[j]? = some u → wq.cell? ((⟨g, 0, none⟩ : Addr).add j) = some u) := Lib.hid (fun j u hu => by
            rw [plain_add]
            refine (hbB.cell (p := ⟨g, j, none⟩) hg).trans (hTK.out j u ?_)
            rw [flatP_append]
            rw [List.getElem?_append_left (List.getElem?_eq_some_iff.1 hu).1]
            exact hu)
          go_wp2_with (at_builtin; go_loud (refine append_pers _ rfl _ _ rfl wq.heap.size _ [] rfl (own_nilP _ _) ⟨g, 0, none⟩ m _ rfl hnews.out ?_ ?_ ?_; (focus (simp; omega)); (focus go_size); intro v1 w1 hown1 hb1))
          have hzq := hbq.size
          have hz11 := hb1.size
          have hS : Hid (∀ w' : World, Below wq.heap.size wq w' → w'.cell? ⟨w.heap.size, 1, none⟩ = some (.int .i64 b) ∧ w'.cell? ⟨g, m.length * 2, none⟩ = some (.int .i64 x) ∧ w'.cell? ⟨g, m.length * 2 + 1, none⟩ = some (.int .i64 y)) := Lib.hid (fun w' hb => by
            have h1 := hbq.trans (hb.mono hzq)
            exact ⟨(h1.cell (p := ⟨w.heap.size, 1, none⟩) sW).trans (oW.cell 1), (h1.cell (p := ⟨g, m.length * 2, none⟩) (Nat.lt_trans hg sW)).trans cc0, (h1.cell (p := ⟨g, m.length * 2 + 1, none⟩) (Nat.lt_trans hg sW)).trans cc1⟩)
          have HW1 := Lib.hid hown1
          rw [List.nil_append] at HW1
          clear f0 f2 hown1
          have hK0 : w1.drew.cell? ⟨w.heap.size, 1, none⟩ = some (.int .i64 b) ∧ w1.drew.cell? ⟨g, m.length * 2, none⟩ = some (.int .i64 x) ∧ w1.drew.cell? ⟨g, m.length * 2 + 1, none⟩ = some (.int .i64 y) := hS.out _ (by (repeat' (first | (with_reducible exact Below.refl _ _) | (with_reducible assumption) | (with_reducible refine Below.alloc ?_ ?_ _) | (with_reducible refine Below.drew ?_) | (with_reducible refine Below.setCell ?_ ?_ _) | (with_reducible refine Below.trans ?_ (Below.mono (by assumption) ?_)) | go_size)))
          go_region_held3 (fun w' => w'.cell? ⟨w.heap.size, 1, none⟩ = some (.int .i64 b) ∧ w'.cell? ⟨g, m.length * 2, none⟩ = some (.int .i64 x) ∧ w'.cell? ⟨g, m.length * 2 + 1, none⟩ = some (.int .i64 y))
            (first | exact hS.out _ (by (repeat' (first | (with_reducible exact Below.refl _ _) | (with_reducible assumption) | (with_reducible refine Below.alloc ?_ ?_ _) | (with_reducible refine Below.drew ?_) | (with_reducible refine Below.setCell ?_ ?_ _) | (with_reducible refine Below.trans ?_ (Below.mono (by assumption) ?_)) | go_size))))
            ((refine step_append_per _ (by rfl) _ _ (by rfl) wq.heap.size _ m (by rfl) (World.ownsRow.alloc (World.ownsRow.drew HW1.out) _) ⟨w1.heap.size, 0, none⟩ x y (by rfl) (cell_two_new _ _ _ _) ?_ ?_ ?_; (focus omega); (focus go_size); intro v3 w3 hown3 hb3))
          have hb4 : Below wq.heap.size wq w3 := (by (repeat' (first | (with_reducible exact Below.refl _ _) | (with_reducible assumption) | (with_reducible refine Below.alloc ?_ ?_ _) | (with_reducible refine Below.drew ?_) | (with_reducible refine Below.setCell ?_ ?_ _) | (with_reducible refine Below.trans ?_ (Below.mono (by assumption) ?_)) | go_size)))
          go_wp2
          go_ret
          rw [hR.out]
          exact ⟨_, rfl, World.ownsRow.mono hown3 (Nat.le_trans hbase hbB.size), (hbB.mono hbase).trans (hb4.mono (Nat.le_trans hbase hbB.size))⟩
      · rw [if_neg hya] at hR
        go_enter Try.func24, Try.ntmps24
        go_wp2
        generalize w.alloc (.cells #[.int .i64 a, .int .i64 b] 33) = W at *
        have f0 : ∀ p : After W, p.w.cell? ⟨w.heap.size, 0, none⟩ = some (.int .i64 a) := after_cell sW (oW.cell 0)
        have f2 : ∀ p : After W, p.w.cell? ⟨g, m.length * 2 + 1, none⟩ = some (.int .i64 y) := after_cell (Nat.lt_trans hg sW) cc1
        (refine wp_region_after (by kernel_rfl) (by kernel_rfl) ?_; (repeat (go_big_quiet_step (fail))); refine wpQuiet_nil ?_; intro wq hw0; obtain ⟨⟨wq0, hbq⟩, hw1⟩ := hw0; subst hw1; (try dsimp only))
        have hbB := bW.trans (hbq.mono bW.size)
        have hzB : base ≤ wq.heap.size := Nat.le_trans hbase hbB.size
        have HOq := Lib.hid (own_below HO1.out hbq)
        have d0 : wq.cell? ⟨w.heap.size, 0, none⟩ = some (.int .i64 a) := (hbq.cell (p := ⟨w.heap.size, 0, none⟩) sW).trans (oW.cell 0)
        have d1 : wq.cell? ⟨w.heap.size, 1, none⟩ = some (.int .i64 b) := (hbq.cell (p := ⟨w.heap.size, 1, none⟩) sW).trans (oW.cell 1)
        have HOv : Hid (wq.ownsRow base 33 2 (.slice (some ⟨g, 0, none⟩) (m.length + 1) c) (m ++ [(x, y)]).length (flatP (m ++ [(x, y)]))) := Lib.hid (by have h := HOq.out; simp only [List.length_append, List.length_singleton]; exact h)
        clear f0 f2
        go_wp2_with (at_builtin; refine append_per _ rfl _ _ rfl base _ (m ++ [(x, y)]) rfl (World.ownsRow.alloc HOv.out _) ⟨wq.heap.size, 0, none⟩ a b rfl (cell_two_new _ _ _ _) ?_ ?_ ?_; (focus (simp; omega)); (focus go_size); intro v1 w1 hown1 hb1)
        go_ret
        rw [hR.out]
        refine ⟨_, rfl, hown1, ?_⟩
        have hzb := hbB.size
        exact (hbB.mono hbase).trans (((Below.refl base wq).alloc (by omega) _).trans hb1)
end Go.Proofs.Ytbpjgipldddcfaa
