/-
  Contract of set.inverse: the set of the inverses of the members. Conditions: the number is below 2^13.
-/
import Derived.Test.YtmmecpmeemhglaaDoorRd
import Derived.WalkKit
import Derived.WalkSpells
import Derived.WalkLawsBesides
import Derived.Deep.QuietTactic
import Derived.BigQuiet
import Derived.Handy
import Derived.Lib.Hide
namespace Go.Proofs.YtmmecpmeemhglaaDoor
open Go.RowKit

def invL (x : Nat) : List Int := (mb x 13).map fun r => 12 - r
def invN (x : Nat) : Nat := setN (invL x)
theorem mb_ok (x k : Nat) (hk : k ≤ 13) : okR (mb x k) := by
  intro r hr
  unfold mb at hr
  rw [List.mem_map] at hr
  obtain ⟨a, ha, rfl⟩ := hr
  have := List.mem_range.1 (List.mem_filter.1 ha).1
  omega
theorem invL_ok (x : Nat) : okR (invL x) := by
  intro r hr
  unfold invL at hr
  rw [List.mem_map] at hr
  obtain ⟨a, ha, rfl⟩ := hr
  have := mb_ok x 13 (by omega) a ha
  omega
theorem inv_nat (m : Nat) (w : World) (h : m < 13) :
    Calls Tryd.prog 14 #[.int .i64 (m : Int)] w fun e w' => e = .returned (.int .i64 ((12 - m : Nat) : Int)) ∧ Below w.heap.size w w' := by
  have HI : invR (m : Int) = ((12 - m : Nat) : Int) := by unfold invR; rw [if_pos ((isRel_iff _).2 (by omega))]; omega
  rw [← HI]
  refine (inv_any _ _).mono ?_
  rintro e w' ⟨rfl, rfl⟩
  exact ⟨rfl, Below.refl _ _⟩

set_option maxRecDepth 100000 in
set_option maxHeartbeats 1600000 in
theorem invS_any (x : Nat) (w : World) (hx : x < 8192) :
    Calls Tryd.prog 56 #[.agg #[.int .u16 x]] w fun e w' => e = .returned (.agg #[.int .u16 (invN x : Nat)]) ∧ Below w.heap.size w w' := by
  go_enter Tryd.func56, Tryd.ntmps56
  go_wp2_with fail
  refine (list_any _ _ hx).mono ?_
  rintro e w1 ⟨v, rfl, hv, hb⟩
  have hv0 := hv
  obtain ⟨A, c, rfl, hlen, _⟩ := hv
  have hz := hb.size
  simp only [World.size_alloc] at hz
  have Z0 : Own w1 (w.heap.size + 1) 53 #[.int .u16 0] := (show Own _ (w.heap.size + 1) 53 #[.int .u16 0] from (show Own _ (w.heap.size + 1) 53 #[.int .u16 0] from by have := Own.new (w.alloc (.cells #[.int .u16 x] 53)) 53 #[.int .u16 0]; rw [World.size_alloc] at this; exact this).alloc _).below hb (by simp)
  have Z1 : Own w1 (w.heap.size + 1 + 1) 53 #[.int .u16 (setN ((invL x).take 0) : Nat)] := (show Own _ (w.heap.size + 1 + 1) 53 #[.int .u16 0] from (by have := Own.new ((w.alloc (.cells #[.int .u16 x] 53)).alloc (.cells #[.int .u16 0] 53)) 53 #[.int .u16 0]; simp only [World.size_alloc] at this; exact this)).below hb (by simp)
  have ZB : Below w.heap.size w w1 := (by (repeat' (first | (with_reducible exact Below.refl _ _) | (with_reducible assumption) | (with_reducible refine Below.alloc ?_ ?_ _) | (with_reducible refine Below.drew ?_) | (with_reducible refine Below.setCell ?_ ?_ _) | (with_reducible refine Below.trans ?_ (Below.mono (by assumption) ?_)) | go_size)))
  have hLI : (invL x).length = (mb x 13).length := by unfold invL; simp
  go_wp2
  go_loopw [9] (fun i wr => ∃ k : Nat, k ≤ (mb x 13).length ∧ i = .int .i64 k ∧ Own wr (w.heap.size + 1) 53 #[.int .u16 0] ∧ Own wr (w.heap.size + 1 + 1) 53 #[.int .u16 (setN ((invL x).take k) : Nat)] ∧ Below w.heap.size w wr ∧ RdI wr (w.heap.size + 3) wr.heap.size (.slice A (mb x 13).length c) (mb x 13)) (fun i _ => (mb x 13).length - (intOf i).toNat)
  case atStart => exact ⟨0, by omega, rfl, Z0, Z1, ZB, hv0.more (Nat.le_refl _) (by simp)⟩
  case round =>
    obtain ⟨k, hk, rfl, o0, o1, hbr, hrd⟩ := hrel
    by_cases hlt : k < (mb x 13).length
    · have hrd0 := hrd
      obtain ⟨ad, rfl, hal, hab, hcell⟩ := hrd.at (List.getElem?_eq_getElem hlt)
      have hr := mb_ok x 13 (by omega) _ (List.getElem_mem hlt)
      obtain ⟨m, hm⟩ := Int.eq_ofNat_of_zero_le hr.1
      have hm13 : m < 13 := by omega
      have hi : (invL x)[k]? = some (((12 - m : Nat) : Int)) := by unfold invL; rw [List.getElem?_map, List.getElem?_eq_getElem hlt, hm]; simp; omega
      have HS := Lib.hid (setN_snoc (invL x) k _ hi)
      rw [hm] at hcell
      rw [Int.toNat_natCast] at HS
      clear hrd
      have e1 := o1.cell 0
      have e2 := o1.free 0
      have hT := setN_lt _ (okR_take (invL_ok x) k)
      have L1 := o1.lt
      generalize hX : setN ((invL x).take k) = X at *
      go_wp2
      go_region_with (first | (go_at_call 14; refine (inv_nat m _ hm13).mono ?_; rintro e w2 ⟨rfl, hb2⟩; have t1 := Own.below (show Own wr.drew _ _ _ from o1) hb2 L1; have d1 := t1.cell 0; have d2 := t1.free 0; have L2 := t1.lt) | (go_at_call 50; refine (with_any _ _ _ hT (show 12 - m < 13 by omega)).mono ?_; rintro e w3 ⟨rfl, hb3⟩; have t3 := t1.below hb3 L2; have d3 := t3.cell 0; have d4 := t3.free 0))
      all_goals
        go_wp2
        have q2 : wr.heap.size ≤ w2.heap.size := hb2.size
        have q3 : w2.heap.size ≤ w3.heap.size := hb3.size
        have k0 := ((show Own wr.drew _ _ _ from o0).below hb2 o0.lt).below hb3 (Nat.lt_of_lt_of_le o0.lt q2)
        have tt := t3.store 0 (.int .u16 (X ||| 2 ^ (12 - m) : Nat))
        have b2 : Below wr.heap.size wr w3 := ((below_drewN (Below.refl wr.heap.size wr) 1).trans hb2).trans (hb3.mono q2)
        have b3 := hbr.size
        have bb : Below w.heap.size w (w3.setCell ⟨w.heap.size + 1 + 1, 0, none⟩ (.int .u16 (X ||| 2 ^ (12 - m) : Nat))) := (hbr.trans (b2.mono b3)).setCell (by simp; omega) _
        have rr := ((hrd0.below b2).set (p := ⟨w.heap.size + 1 + 1, 0, none⟩) (.inl (by simp)) (.int .u16 (X ||| 2 ^ (12 - m) : Nat))).more (B' := (w3.setCell ⟨w.heap.size + 1 + 1, 0, none⟩ (.int .u16 (X ||| 2 ^ (12 - m) : Nat))).heap.size) (by simp; omega) (Nat.le_refl _)
        go_roundw
        case rel => exact ⟨k + 1, by omega, by go_num, k0.far (by simp) _, by rw [HS.out]; exact tt, bb, rr⟩
        case measure => simp [intOf]; omega
    · have hkl : k = (mb x 13).length := by omega
      subst hkl
      rw [← hLI, List.take_length] at o1
      have e0 := o0.cell 0
      have f0 := o0.free 0
      have e1 := o1.cell 0
      go_wp2
      refine bodyPost_ret (v := .agg #[.int .u16 (invN x : Nat)]) (results_cell_row rfl _ _ (w.heap.size + 1) 53 #[.int .u16 (invN x : Nat)] (0, 0) _ rfl (o0.store 0 _) Tryd.underlying53 rfl setInfo) rfl ⟨rfl, ?_⟩
      exact hbr.setCell (by simp) _
end Go.Proofs.YtmmecpmeemhglaaDoor
