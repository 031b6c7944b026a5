/-
  Contracts of the reference's Slices, Join and combinations. Conditions: the lists hold at most 100000 periods.
-/
import Derived.Test.YtpbccbhhjnlcpaaInsS
import Derived.Deep.RegionHeld3
import Derived.IntWalk
import Derived.WalkKit
import Derived.WalkSpells
import Derived.WalkLawsBesides
import Derived.Deep.QuietTactic
import Derived.BigQuiet
import Derived.Handy
import Derived.Lib.Hide
namespace Go.Proofs.Ytpbccbhhjnlcpaa
open Go.RowKit

theorem elem_step (g : Int → Bool) {P : List Int} {k : Nat} {x y : Int} (hx : P[k]? = some x) (hy : P[k + 1]? = some y) : elem g (P.take (k + 1 + 1)) = elem g (P.take (k + 1)) ++ (if g x then [(x, y)] else []) := by
  rw [take_snoc_I hy, take_snoc_I hx, List.append_assoc, List.singleton_append]
  exact elem_snoc g x y _

set_option maxRecDepth 100000 in
set_option maxHeartbeats 1600000 in
theorem rSlices_any (v : Value) (l : List (Int × Int)) (w : World) (L : Nat) (hv : RdP w L w.heap.size v l) (hlen : l.length ≤ 100000) :
    Calls Try.prog 26 #[v] w (RetPers w (elem (memL l) (pts l))) := by
  have hv0 := hv
  obtain ⟨A, c, rfl, hl63, _⟩ := hv
  have hpl := pts_len l
  go_enter Try.func26, Try.ntmps26
  go_wp2_with fail
  refine (rPts_any _ l _ L hv0 hlen).mono ?_
  rintro e w1 ⟨v1, rfl, hr1, hb1⟩
  have hR1 := Lib.hid hr1
  obtain ⟨A1, c1, rfl, _, _⟩ := hr1
  generalize pts l = P at *
  have hz1 := hb1.size
  go_wp2
  go_loopw [4, 5] (fun o i wr => ∃ k : Nat, k + 1 ≤ P.length + 1 ∧ i = .int .i64 (k + 1 : Nat) ∧ wr.ownsRow w1.heap.size 39 2 o (elem (memL l) (P.take (k + 1))).length (flatP (elem (memL l) (P.take (k + 1)))) ∧ Below w1.heap.size w1 wr) (fun _ i _ => P.length + 1 - (intOf i).toNat)
  case atStart =>
    refine ⟨0, by omega, rfl, ?_, Below.refl _ _⟩
    have e0 : elem (memL l) (P.take (0 + 1)) = [] := by cases P <;> rfl
    rw [e0]
    exact own_nilP _ _
  case round =>
    obtain ⟨k, hk, rfl, hown, hbr⟩ := hrel
    have hbz := hbr.size
    have HO := Lib.hid hown
    clear hown
    by_cases hlt : k + 1 < P.length
    · have hx := List.getElem?_eq_getElem (show k < P.length by omega)
      have hy := List.getElem?_eq_getElem hlt
      have hS := Lib.hid (elem_step (memL l) hx hy)
      have hle := elem_len (memL l) (P.take (k + 1))
      rw [List.length_take] at hle
      generalize P[k] = x at hx hS
      generalize P[k + 1] = y at hy hS
      obtain ⟨ad, rfl, _, hab, c0⟩ := (hR1.out.below hbr).at hx
      obtain ⟨_, e1, _, _, c1'⟩ := (hR1.out.below hbr).at hy
      injection e1 with e1
      subst e1
      cases hM : memL l x
      · go_wp2_with (go_at_call 16; refine (rMem_any _ l _ _ L ((hv0.below (hb1.trans (hbr.mono hz1))).more (Nat.le_trans hz1 hbz) (Nat.le_refl _))).mono ?_; rw [hM]; rintro e w2 ⟨rfl, hb2⟩)
        go_roundw
        case rel => exact ⟨k + 1, by omega, by go_num, by rw [hS.out, hM, if_neg (by decide), List.append_nil]; exact own_below HO.out hb2, hbr.trans (hb2.mono hbz)⟩
        case measure => simp [intOf]; omega
      · go_wp2_with (go_at_call 16; refine (rMem_any _ l _ _ L ((hv0.below (hb1.trans (hbr.mono hz1))).more (Nat.le_trans hz1 hbz) (Nat.le_refl _))).mono ?_; rw [hM]; rintro e w2 ⟨rfl, hb2⟩)
        have HO2 := own_below HO.out hb2
        have hbb := hbr.trans (hb2.mono hbz)
        have hSS : ∀ w' : World, Below w1.heap.size w2 w' → w'.cell? (ad.add k) = some (.int .i64 x) ∧ w'.cell? (ad.add (k + 1)) = some (.int .i64 y) := fun w' hb => ⟨((hb2.mono hbz).trans hb).cell (p := ad.add k) (by rw [add_block]; omega) |>.trans c0, ((hb2.mono hbz).trans hb).cell (p := ad.add (k + 1)) (by rw [add_block]; omega) |>.trans c1'⟩
        have HS := Lib.hid hSS
        have hz2 := hbb.size
        have HOH := Lib.hid HO2
        clear hSS c0 c1' hb2 HO2 hx hy
        have i1 : IntKind.i64.wrap ((k : Int) + 1 - 1) = k := by rw [show (k : Int) + 1 - 1 = k by omega]; exact IntWalk.i64_in _ (by omega)
        have i7 : IntKind.i64.wrap (k : Int) = k := IntWalk.i64_in _ (by omega)
        have hpos : ad.add (k + 1) = ⟨ad.block, ad.off + (k + 1), none⟩ := by unfold Addr.add; rw [if_neg (by omega)]
        rw [hpos] at HS
        clear hpos
        have i2 : (0 : Int) ≤ (k : Int) := by omega
        have i3 : (k : Int) < (P.length : Int) := by omega
        have i4 : (0 : Int) ≤ (k : Int) + 1 := by omega
        have i5 : (k : Int) + 1 < (P.length : Int) := by omega
        have i6 : ((k : Int) + 1).toNat = k + 1 := by omega
        go_region_held3 (fun w' => w'.cell? (ad.add k) = some (.int .i64 x) ∧ w'.cell? ⟨ad.block, ad.off + (k + 1), none⟩ = some (.int .i64 y))
          (first | exact HS.out _ (by (repeat' (first | (with_reducible exact Below.refl _ _) | (with_reducible assumption) | (with_reducible refine Below.alloc ?_ ?_ _) | (with_reducible refine Below.drew ?_) | (with_reducible refine Below.setCell ?_ ?_ _) | (with_reducible refine Below.trans ?_ (Below.mono (by assumption) ?_)) | go_size))))
          ((refine step_append_per _ (by rfl) _ _ (by rfl) w1.heap.size _ (elem (memL l) (P.take (k + 1))) (by rfl) (World.ownsRow.alloc (World.ownsRow.drew HOH.out) _) ⟨w2.heap.size, 0, none⟩ x y (by rfl) (cell_two_new _ _ _ _) ?_ ?_ ?_; (focus omega); (focus go_size); intro v3 w3 hown3 hb3))
        have hb4 : Below w1.heap.size w2 w3 := (by (repeat' (first | (with_reducible exact Below.refl _ _) | (with_reducible assumption) | (with_reducible refine Below.alloc ?_ ?_ _) | (with_reducible refine Below.drew ?_) | (with_reducible refine Below.setCell ?_ ?_ _) | (with_reducible refine Below.trans ?_ (Below.mono (by assumption) ?_)) | go_size)))
        go_wp2
        go_roundw
        case rel => exact ⟨k + 1, by omega, by go_num, by rw [hS.out, hM, if_pos rfl]; exact hown3, hbb.trans hb4⟩
        case measure => simp [intOf]; omega
    · have hle := elem_len (memL l) P
      have hT : P.take (k + 1) = P := List.take_of_length_le (by omega)
      rw [hT] at HO
      have hd : ¬ ((k + 1 : Nat) : Int) < P.length := by omega
      go_wp2
      go_ret
      exact ⟨_, rfl, (RdP.of_own HO.out (by omega)).more (Nat.le_refl _) hz1, hb1.trans (hbr.mono hz1)⟩

set_option maxHeartbeats 800000 in
theorem wanted_any (kd : Int) (hk : kd = 1 ∨ kd = 2 ∨ kd = 3 ∨ kd = 4) (x y : Bool) (w : World) :
    Calls Try.prog 64 #[.int .i64 kd, .bool x, .bool y] w fun e w' => e = .returned (.bool (wantF kd x y)) ∧ Below w.heap.size w w' := by
  rcases hk with rfl | rfl | rfl | rfl <;> cases x <;> cases y
  all_goals
    go_enter Try.func64, Try.ntmps64
    go_wp2
    go_ret
    exact ⟨rfl, Below.refl _ _⟩
end Go.Proofs.Ytpbccbhhjnlcpaa
