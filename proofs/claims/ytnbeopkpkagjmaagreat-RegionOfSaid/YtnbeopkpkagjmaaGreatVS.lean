import Derived.Test.YtnbeopkpkagjmaaGreatMP
import Derived.Test.YtnbeopkpkagjmaaGreatMS
import Derived.Test.YtnbeopkpkagjmaaGreatMA
import Derived.Test.YtnbeopkpkagjmaaGreatMQ
import Derived.WalkKit
import Derived.WalkSpells
import Derived.WalkLawsBesides
import Derived.Deep.QuietTactic
import Derived.BigQuiet
import Derived.Handy
import Derived.Lib.Hide
/-
  Contracts of Valid on lists of periods, of the program and of the reference, and of the reference's Contains. Conditions: none.
-/
namespace Go.Proofs.YtnbeopkpkagjmaaGreat
set_option maxRecDepth 100000
set_option linter.unusedVariables false
set_option linter.unusedSimpArgs false
open Go.RowKit

theorem spB_take {z : Int} {l : List (Int × Int)} (k : Nat) (h : spB z l = true) : spB z (l.take k) = true := by
  induction l generalizing z k with
  | nil => cases k <;> rfl
  | cons p l ih =>
    cases k with
    | zero => rfl
    | succ k =>
      simp only [spB, Bool.and_eq_true] at h
      simp only [List.take_succ_cons, spB, Bool.and_eq_true]
      exact ⟨h.1, ih k h.2⟩
theorem sp_no {l : List (Int × Int)} {k : Nat} {p : Int × Int} (hk : l[k]? = some p) (h : (decide (lastTo (-1) (l.take k) < p.1) && vld p.1 p.2) = false) : spB (-1) l = false := by
  rw [Bool.eq_false_iff]
  intro hs
  have h1 := spB_take (k + 1) hs
  obtain ⟨hlt, rfl⟩ := List.getElem?_eq_some_iff.1 hk
  rw [List.take_succ_eq_append_getElem hlt, spB_snoc, Bool.and_assoc, h, Bool.and_false] at h1
  cases h1
theorem sp_yes {l : List (Int × Int)} {k : Nat} {p : Int × Int} (hk : l[k]? = some p) (h0 : spB (-1) (l.take k) = true) (h : (decide (lastTo (-1) (l.take k) < p.1) && vld p.1 p.2) = true) : spB (-1) (l.take (k + 1)) = true := by
  obtain ⟨hlt, rfl⟩ := List.getElem?_eq_some_iff.1 hk
  rw [List.take_succ_eq_append_getElem hlt, spB_snoc, Bool.and_assoc, h, h0]; rfl
theorem last_take {l : List (Int × Int)} {k : Nat} {q : Int × Int} (hk : l[k]? = some q) : lastTo (-1) (l.take (k + 1)) = q.2 := by
  obtain ⟨hlt, rfl⟩ := List.getElem?_eq_some_iff.1 hk
  rw [List.take_succ_eq_append_getElem hlt, lastTo_snoc]
theorem take_pos {l : List (Int × Int)} {k : Nat} (h0 : 0 < k) (hk : k < l.length) : ∃ j q, k = j + 1 ∧ l[j]? = some q := by
  obtain ⟨j, rfl⟩ : ∃ j, k = j + 1 := ⟨k - 1, by omega⟩
  exact ⟨j, _, rfl, List.getElem?_eq_getElem (by omega)⟩

set_option maxRecDepth 100000 in
set_option maxHeartbeats 1600000 in
theorem sValid_any (v : Value) (l : List (Int × Int)) (w : World) (L : Nat) (hv : RdP w L w.heap.size v l) :
    Calls Tryz.prog 47 #[v] w fun e w' => e = .returned (.bool (spB (-1) l)) ∧ Below w.heap.size w w' := by
  have hv0 := hv
  obtain ⟨A, c, rfl, hlen, _⟩ := hv
  go_enter Tryz.func47, Tryz.ntmps47
  go_wp2
  go_loopw [7] (fun i wr => ∃ k : Nat, k ≤ l.length ∧ i = .int .i64 k ∧ spB (-1) (l.take k) = true ∧ Below w.heap.size w wr) (fun i _ => l.length - (intOf i).toNat)
  case atStart => exact ⟨0, by omega, rfl, rfl, Below.refl _ _⟩
  case round =>
    obtain ⟨k, hk, rfl, hok, hbr⟩ := hrel
    by_cases hlt : k < l.length
    · have hke := List.getElem?_eq_getElem hlt
      generalize l[k] = p at hke
      obtain ⟨a, b⟩ := p
      obtain ⟨ad, rfl, hal, hab, h0, h1⟩ := (hv0.below hbr).at hke
      dsimp only at h0 h1
      have hbz := hbr.size
      have HN := fun h => Lib.hid (sp_no hke h)
      have HY := fun h => Lib.hid (sp_yes hke hok h)
      by_cases h0k : 0 < k
      · obtain ⟨j, q, rfl, hq⟩ := take_pos h0k hlt
        obtain ⟨a', b'⟩ := q
        obtain ⟨_, e1, _, _, g0, g1⟩ := (hv0.below hbr).at hq
        injection e1 with e1
        subst e1
        dsimp only at g0 g1
        have hL := last_take hq
        rw [hL] at HN HY
        dsimp only at HN HY
        clear hL
        cases hV : vld a b
        · have hF := HN (by rw [hV, Bool.and_false])
          clear HN HY
          go_wp2
          have bW := hbr.alloc hbz (.cells #[.int .i64 a, .int .i64 b] 33)
          have oW := Own.new wr 33 #[.int .i64 a, .int .i64 b]
          have g1' := (((Below.refl wr.heap.size wr).alloc (Nat.le_refl _) (.cells #[.int .i64 a, .int .i64 b] 33)).cell (p := ⟨(ad.add (j * 2)).block, (ad.add (j * 2)).off + 1, none⟩) (by show (ad.add (j * 2)).block < _; rw [add_block]; omega)).trans g1
          clear h0 h1 g0 g1
          have sW : wr.heap.size < (wr.alloc (.cells #[.int .i64 a, .int .i64 b] 33)).heap.size := by simp
          have sA : (ad.add (j * 2)).block < (wr.alloc (.cells #[.int .i64 a, .int .i64 b] 33)).heap.size := by rw [add_block]; simp; omega
          generalize wr.alloc (.cells #[.int .i64 a, .int .i64 b] 33) = W at *
          generalize wr.heap.size = g8 at *
          have f0 : ∀ p : After W, p.w.cell? ⟨g8, 0, none⟩ = some (.int .i64 a) := after_cell sW (oW.cell 0)
          have f1 : ∀ p : After W, p.w.cell? ⟨g8, 1, none⟩ = some (.int .i64 b) := after_cell sW (oW.cell 1)
          have f2 := after_cell (a := ⟨(ad.add (j * 2)).block, (ad.add (j * 2)).off + 1, none⟩) sA g1'
          have sB := bW.size
          clear g1' oW
          (refine wp_region_after (by kernel_rfl) (by kernel_rfl) ?_; (repeat (go_big_quiet_step ((go_at_call 46; exact calls_after (valid_any _ _ _))))); refine wpQuiet_nil ?_; intro wq hw0; obtain ⟨⟨wq0, hbq⟩, hw1⟩ := hw0; subst hw1; (try dsimp only))
          go_wp2
          go_ret
          exact ⟨congrArg (fun b => Ending.returned (.bool b)) hF.out.symm, bW.trans (hbq.mono sB)⟩
        by_cases hba : b' ≥ a
        · have hF := HN (by rw [decide_eq_false (by omega), Bool.false_and])
          clear HN HY
          go_wp2
          have bW := hbr.alloc hbz (.cells #[.int .i64 a, .int .i64 b] 33)
          have oW := Own.new wr 33 #[.int .i64 a, .int .i64 b]
          have g1' := (((Below.refl wr.heap.size wr).alloc (Nat.le_refl _) (.cells #[.int .i64 a, .int .i64 b] 33)).cell (p := ⟨(ad.add (j * 2)).block, (ad.add (j * 2)).off + 1, none⟩) (by show (ad.add (j * 2)).block < _; rw [add_block]; omega)).trans g1
          clear h0 h1 g0 g1
          have sW : wr.heap.size < (wr.alloc (.cells #[.int .i64 a, .int .i64 b] 33)).heap.size := by simp
          have sA : (ad.add (j * 2)).block < (wr.alloc (.cells #[.int .i64 a, .int .i64 b] 33)).heap.size := by rw [add_block]; simp; omega
          generalize wr.alloc (.cells #[.int .i64 a, .int .i64 b] 33) = W at *
          generalize wr.heap.size = g8 at *
          have f0 : ∀ p : After W, p.w.cell? ⟨g8, 0, none⟩ = some (.int .i64 a) := after_cell sW (oW.cell 0)
          have f1 : ∀ p : After W, p.w.cell? ⟨g8, 1, none⟩ = some (.int .i64 b) := after_cell sW (oW.cell 1)
          have f2 := after_cell (a := ⟨(ad.add (j * 2)).block, (ad.add (j * 2)).off + 1, none⟩) sA g1'
          have sB := bW.size
          clear g1' oW
          (refine wp_region_after (by kernel_rfl) (by kernel_rfl) ?_; (repeat (go_big_quiet_step ((go_at_call 46; exact calls_after (valid_any _ _ _))))); refine wpQuiet_nil ?_; intro wq hw0; obtain ⟨⟨wq0, hbq⟩, hw1⟩ := hw0; subst hw1; (try dsimp only))
          go_wp2
          go_ret
          exact ⟨congrArg (fun b => Ending.returned (.bool b)) hF.out.symm, bW.trans (hbq.mono sB)⟩
        · have hT := HY (by rw [hV, decide_eq_true (by omega)]; rfl)
          clear HN HY
          go_wp2
          have bW := hbr.alloc hbz (.cells #[.int .i64 a, .int .i64 b] 33)
          have oW := Own.new wr 33 #[.int .i64 a, .int .i64 b]
          have g1' := (((Below.refl wr.heap.size wr).alloc (Nat.le_refl _) (.cells #[.int .i64 a, .int .i64 b] 33)).cell (p := ⟨(ad.add (j * 2)).block, (ad.add (j * 2)).off + 1, none⟩) (by show (ad.add (j * 2)).block < _; rw [add_block]; omega)).trans g1
          clear h0 h1 g0 g1
          have sW : wr.heap.size < (wr.alloc (.cells #[.int .i64 a, .int .i64 b] 33)).heap.size := by simp
          have sA : (ad.add (j * 2)).block < (wr.alloc (.cells #[.int .i64 a, .int .i64 b] 33)).heap.size := by rw [add_block]; simp; omega
          generalize wr.alloc (.cells #[.int .i64 a, .int .i64 b] 33) = W at *
          generalize wr.heap.size = g8 at *
          have f0 : ∀ p : After W, p.w.cell? ⟨g8, 0, none⟩ = some (.int .i64 a) := after_cell sW (oW.cell 0)
          have f1 : ∀ p : After W, p.w.cell? ⟨g8, 1, none⟩ = some (.int .i64 b) := after_cell sW (oW.cell 1)
          have f2 := after_cell (a := ⟨(ad.add (j * 2)).block, (ad.add (j * 2)).off + 1, none⟩) sA g1'
          have sB := bW.size
          clear g1' oW
          (refine wp_region_after (by kernel_rfl) (by kernel_rfl) ?_; (repeat (go_big_quiet_step ((go_at_call 46; exact calls_after (valid_any _ _ _))))); refine wpQuiet_nil ?_; intro wq hw0; obtain ⟨⟨wq0, hbq⟩, hw1⟩ := hw0; subst hw1; (try dsimp only))
          go_wp2
          go_roundw
          case rel => exact ⟨j + 1 + 1, by omega, by go_num, hT.out, bW.trans (hbq.mono sB)⟩
          case measure => simp [intOf]; omega
      · have hL : lastTo (-1) (l.take k) = -1 := by
          have h0 : k = 0 := by omega
          subst h0; rfl
        rw [hL] at HN HY
        dsimp only at HN HY
        clear hL
        have hk1 : ¬ (k : Int) > 0 := by omega
        have hk2 : decide ((k : Int) > 0) = false := by simp; omega
        cases hV : vld a b
        · have hF := HN (by rw [hV, Bool.and_false])
          clear HN HY
          go_wp2
          have bW := hbr.alloc hbz (.cells #[.int .i64 a, .int .i64 b] 33)
          have oW := Own.new wr 33 #[.int .i64 a, .int .i64 b]
          clear h0 h1
          have sW : wr.heap.size < (wr.alloc (.cells #[.int .i64 a, .int .i64 b] 33)).heap.size := by simp
          generalize wr.alloc (.cells #[.int .i64 a, .int .i64 b] 33) = W at *
          generalize wr.heap.size = g8 at *
          have f0 : ∀ p : After W, p.w.cell? ⟨g8, 0, none⟩ = some (.int .i64 a) := after_cell sW (oW.cell 0)
          have f1 : ∀ p : After W, p.w.cell? ⟨g8, 1, none⟩ = some (.int .i64 b) := after_cell sW (oW.cell 1)
          have sB := bW.size
          clear oW
          (refine wp_region_after (by kernel_rfl) (by kernel_rfl) ?_; (repeat (go_big_quiet_step ((go_at_call 46; exact calls_after (valid_any _ _ _))))); refine wpQuiet_nil ?_; intro wq hw0; obtain ⟨⟨wq0, hbq⟩, hw1⟩ := hw0; subst hw1; (try dsimp only))
          go_wp2
          go_ret
          exact ⟨congrArg (fun b => Ending.returned (.bool b)) hF.out.symm, bW.trans (hbq.mono sB)⟩
        · have hT := HY (by rw [hV, decide_eq_true (by have := vld_iff.1 hV; omega)]; rfl)
          clear HN HY
          go_wp2
          have bW := hbr.alloc hbz (.cells #[.int .i64 a, .int .i64 b] 33)
          have oW := Own.new wr 33 #[.int .i64 a, .int .i64 b]
          clear h0 h1
          have sW : wr.heap.size < (wr.alloc (.cells #[.int .i64 a, .int .i64 b] 33)).heap.size := by simp
          generalize wr.alloc (.cells #[.int .i64 a, .int .i64 b] 33) = W at *
          generalize wr.heap.size = g8 at *
          have f0 : ∀ p : After W, p.w.cell? ⟨g8, 0, none⟩ = some (.int .i64 a) := after_cell sW (oW.cell 0)
          have f1 : ∀ p : After W, p.w.cell? ⟨g8, 1, none⟩ = some (.int .i64 b) := after_cell sW (oW.cell 1)
          have sB := bW.size
          clear oW
          (refine wp_region_after (by kernel_rfl) (by kernel_rfl) ?_; (repeat (go_big_quiet_step ((go_at_call 46; exact calls_after (valid_any _ _ _))))); refine wpQuiet_nil ?_; intro wq hw0; obtain ⟨⟨wq0, hbq⟩, hw1⟩ := hw0; subst hw1; (try dsimp only))
          go_wp2
          go_roundw
          case rel => exact ⟨k + 1, by omega, by go_num, hT.out, bW.trans (hbq.mono sB)⟩
          case measure => simp [intOf]; omega
    · have hkl : k = l.length := by omega
      subst hkl
      rw [List.take_length] at hok
      go_wp2
      go_ret
      exact ⟨congrArg (fun b => Ending.returned (.bool b)) hok.symm, hbr⟩

theorem mem_yes {l : List (Int × Int)} {k : Nat} {a b t : Int} (hk : l[k]? = some (a, b)) (h : cnt a b t = true) : memL l t = true := by
  unfold memL
  rw [List.any_eq_true]
  exact ⟨_, List.mem_of_getElem? hk, h⟩
theorem mem_no {l : List (Int × Int)} {k : Nat} {a b t : Int} (hk : l[k]? = some (a, b)) (h0 : memL (l.take k) t = false) (h : cnt a b t = false) : memL (l.take (k + 1)) t = false := by
  obtain ⟨hlt, e⟩ := List.getElem?_eq_some_iff.1 hk
  rw [List.take_succ_eq_append_getElem hlt, memL_append, h0, e, memL_cons, memL_nil, h]; rfl
set_option maxRecDepth 100000 in
set_option maxHeartbeats 800000 in
theorem rMem_any (v : Value) (l : List (Int × Int)) (t : Int) (w : World) (L : Nat) (hv : RdP w L w.heap.size v l) :
    Calls Tryz.prog 71 #[v, .int .i64 t] w fun e w' => e = .returned (.bool (memL l t)) ∧ Below w.heap.size w w' := by
  have hv0 := hv
  obtain ⟨A, c, rfl, hlen, _⟩ := hv
  go_enter Tryz.func71, Tryz.ntmps71
  go_wp2
  go_loopw [5] (fun i wr => ∃ k : Nat, k ≤ l.length ∧ i = .int .i64 k ∧ memL (l.take k) t = false ∧ Below w.heap.size w wr) (fun i _ => l.length - (intOf i).toNat)
  case atStart => exact ⟨0, by omega, rfl, rfl, Below.refl _ _⟩
  case round =>
    obtain ⟨k, hk, rfl, hok, hbr⟩ := hrel
    have hbz := hbr.size
    by_cases hlt : k < l.length
    · have hke := List.getElem?_eq_getElem hlt
      generalize l[k] = p at hke
      obtain ⟨a, b⟩ := p
      obtain ⟨ad, rfl, hal, hab, h0, h1⟩ := (hv0.below hbr).at hke
      dsimp only at h0 h1
      cases hC : cnt a b t
      · have hT := Lib.hid (mem_no hke hok hC)
        go_wp2_with (go_at_call 32; refine (rcontains_any _ _ _ _).mono ?_; rw [hC]; rintro e w2 ⟨rfl, hb2⟩)
        go_roundw
        case rel => exact ⟨k + 1, by omega, by go_num, hT.out, hbr.trans (hb2.mono hbz)⟩
        case measure => simp [intOf]; omega
      · have hT := Lib.hid (mem_yes hke hC)
        go_wp2_with (go_at_call 32; refine (rcontains_any _ _ _ _).mono ?_; rw [hC]; rintro e w2 ⟨rfl, hb2⟩)
        go_ret
        exact ⟨congrArg (fun b => Ending.returned (.bool b)) hT.out.symm, hbr.trans (hb2.mono hbz)⟩
    · have hkl : k = l.length := by omega
      subst hkl
      rw [List.take_length] at hok
      go_wp2
      go_ret
      exact ⟨congrArg (fun b => Ending.returned (.bool b)) hok.symm, hbr⟩
end Go.Proofs.YtnbeopkpkagjmaaGreat
