/-
  Contract of Compose: the members of the table's entry. Conditions: none.
-/
import Derived.Test.YtmmecpmeemhglaaDoorRd
import Derived.Test.YtmmecpmeemhglaaDoorComp
import Derived.WalkKit
import Derived.WalkSpells
import Derived.WalkLawsBesides
import Derived.Deep.QuietTactic
import Derived.BigQuiet
import Derived.Handy
import Derived.Lib.Hide
namespace Go.Proofs.YtmmecpmeemhglaaDoor
open Go.RowKit
theorem tbZ2 : (Tryd.zeroCells56).size = (tbA 3375).size := by rw [tbA_size]; kernel_rfl
attribute [local irreducible] tbA

def cmpL (a b : Int) : List Int := if isRel a && isRel b then mb (tb a.toNat b.toNat) 13 else []
set_option maxRecDepth 100000 in
set_option maxHeartbeats 800000 in
theorem cmp_bad (a b : Int) (w : World) (h : (isRel a && isRel b) = false) :
    Calls Tryd.prog 17 #[.int .i64 a, .int .i64 b] w fun e w' => e = .returned (.slice none 0 0) ∧ Below w.heap.size w w' := by
  cases ha : isRel a
  · go_enter Tryd.func17, Tryd.ntmps17
    go_wp2_with (go_at_call 33; refine (isrel_any _ _).mono ?_; rintro e w1 ⟨rfl, rfl⟩; rw [ha])
    go_ret
    exact ⟨rfl, Below.refl _ _⟩
  · rw [ha, Bool.true_and] at h
    go_enter Tryd.func17, Tryd.ntmps17
    go_wp2_with (go_at_call 33; refine (isrel_any _ _).mono ?_; rintro e w1 ⟨rfl, rfl⟩; first | rw [ha] | rw [h])
    go_ret
    exact ⟨rfl, Below.refl _ _⟩
set_option maxRecDepth 100000 in
set_option maxHeartbeats 800000 in
theorem cmp_good (a b : Nat) (w : World) (ha : a < 13) (hb : b < 13) :
    Calls Tryd.prog 17 #[.int .i64 a, .int .i64 b] w (RetInts w (mb (tb a b) 13)) := by
  have ia : isRel (a : Int) = true := (isRel_iff _).2 (by omega)
  have ib : isRel (b : Int) = true := (isRel_iff _).2 (by omega)
  have a13 : (a : Int) < 13 := by omega
  have b13 : (b : Int) < 13 := by omega
  go_enter Tryd.func17, Tryd.ntmps17
  go_wp2_with (go_at_call 33; refine (isrel_any _ _).mono ?_; rintro e w1 ⟨rfl, rfl⟩; first | rw [ia] | rw [ib])
  refine (tab_any _).mono ?_
  rintro e w2 ⟨rfl, hb2⟩
  have hz2 := hb2.size
  have HB : Below w.heap.size w (w2.alloc (.cells (tbA 3375) 56)) := hb2.alloc hz2 _
  have hT : (tbA 3375)[a * 13 + b]? = some (.int .u16 (tb a b : Nat)) := tbA_get 3375 (a * 13 + b) (by omega)
  go_wp2_with (first | (refine wpList_store_row rfl 56 _ _ rfl w2.heap.size (tbA 3375) rfl rfl 56 _ (heap_alloc_new _ _) tbInfo tbZ2 tbOne ?_; rw [World.setRow_alloc_new]) | (go_at_call 35; refine (list_any _ _ (tb_lt a b)).mono ?_; rintro e w3 ⟨v, rfl, hv, hb3⟩))
  go_ret
  exact ⟨v, rfl, hv.more (Nat.le_refl _) HB.size, HB.trans (hb3.mono HB.size)⟩
theorem cmp_rel (a b : Int) (w : World) :
    Calls Tryd.prog 17 #[.int .i64 a, .int .i64 b] w (RetInts w (cmpL a b)) := by
  unfold cmpL
  cases h : isRel a && isRel b
  · refine (cmp_bad a b w h).mono ?_
    rintro e w' ⟨rfl, hb⟩
    exact ⟨_, rfl, ⟨none, 0, rfl, by simp, fun k n h => by simp at h⟩, hb⟩
  · rw [Bool.and_eq_true] at h
    obtain ⟨ha1, ha2⟩ := (isRel_iff a).1 h.1
    obtain ⟨hb1, hb2⟩ := (isRel_iff b).1 h.2
    obtain ⟨a, rfl⟩ := Int.eq_ofNat_of_zero_le ha1
    obtain ⟨b, rfl⟩ := Int.eq_ofNat_of_zero_le hb1
    exact cmp_good a b w (by omega) (by omega)
end Go.Proofs.YtmmecpmeemhglaaDoor
