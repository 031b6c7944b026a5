/-
  Truth values of the program and of the reference: what each function answers, in every world. Conditions: none.
-/
import Derived.Test.YthjnkekkjjcnfaaGreatDoorBase
import Derived.Test.YthjnkekkjjcnfaaGreatDoorProg
import Derived.WalkKit
import Derived.WalkSpells
import Derived.WalkLawsBesides
import Derived.Deep.QuietTactic
import Derived.BigQuiet
import Derived.Handy
import Derived.Lib.Hide
namespace Go.Proofs.YthjnkekkjjcnfaaGreatDoor
open Go.RowKit

def vnot (a : Int) : Int := if a = 0 then 2 else if a = 2 then 0 else 1
def vand (a b : Int) : Int := if a = 0 ∨ b = 0 then 0 else if a = 2 ∧ b = 2 then 2 else 1
def vor (a b : Int) : Int := if a = 2 ∨ b = 2 then 2 else if a = 0 ∧ b = 0 then 0 else 1
set_option maxHeartbeats 400000 in
theorem pNot_any (a : Int) (w : World) : Calls Tryz.prog 27 #[.int .i64 a] w fun e w' => e = .returned (.int .i64 (vnot a)) ∧ Below w.heap.size w w' := by
  unfold vnot
  by_cases h0 : a = 0
  · subst h0
    rw [if_pos rfl]
    go_enter Tryz.func27, Tryz.ntmps27
    go_wp2
    go_ret
    exact ⟨rfl, Below.refl _ _⟩
  · rw [if_neg h0]
    by_cases h2 : a = 2
    · subst h2
      rw [if_pos rfl]
      go_enter Tryz.func27, Tryz.ntmps27
      go_wp2
      go_ret
      exact ⟨rfl, Below.refl _ _⟩
    · rw [if_neg h2]
      have k0 : (a == 0) = false := by simpa using h0
      have k2 : (a == 2) = false := by simpa using h2
      go_enter Tryz.func27, Tryz.ntmps27
      go_wp2
      go_ret
      exact ⟨rfl, Below.refl _ _⟩
set_option maxHeartbeats 400000 in
theorem rNot_any (a : Int) (w : World) : Calls Tryz.prog 28 #[.int .i64 a] w fun e w' => e = .returned (.int .i64 (vnot a)) ∧ Below w.heap.size w w' := by
  unfold vnot
  by_cases h0 : a = 0
  · subst h0
    rw [if_pos rfl]
    go_enter Tryz.func28, Tryz.ntmps28
    go_wp2
    go_ret
    exact ⟨rfl, Below.refl _ _⟩
  · rw [if_neg h0]
    by_cases h2 : a = 2
    · subst h2
      rw [if_pos rfl]
      go_enter Tryz.func28, Tryz.ntmps28
      go_wp2
      go_ret
      exact ⟨rfl, Below.refl _ _⟩
    · rw [if_neg h2]
      have k0 : (a == 0) = false := by simpa using h0
      have k2 : (a == 2) = false := by simpa using h2
      go_enter Tryz.func28, Tryz.ntmps28
      go_wp2
      go_ret
      exact ⟨rfl, Below.refl _ _⟩
set_option maxHeartbeats 800000 in
theorem rAnd_any (a b : Int) (w : World) : Calls Tryz.prog 30 #[.int .i64 a, .int .i64 b] w fun e w' => e = .returned (.int .i64 (vand a b)) ∧ Below w.heap.size w w' := by
  unfold vand
  have ka : a = 0 ∨ a = 2 ∨ (a ≠ 0 ∧ a ≠ 2) := by omega
  have kb : b = 0 ∨ b = 2 ∨ (b ≠ 0 ∧ b ≠ 2) := by omega
  have fa0 : a ≠ 0 → (a == 0) = false := fun h => by simpa using h
  have fa2 : a ≠ 2 → (a == 2) = false := fun h => by simpa using h
  have fb0 : b ≠ 0 → (b == 0) = false := fun h => by simpa using h
  have fb2 : b ≠ 2 → (b == 2) = false := fun h => by simpa using h
  rcases ka with rfl | rfl | ⟨a0, a2⟩ <;> rcases kb with rfl | rfl | ⟨b0, b2⟩
  all_goals
    (try have xa0 := fa0 a0)
    (try have xa2 := fa2 a2)
    (try have xb0 := fb0 b0)
    (try have xb2 := fb2 b2)
    clear fa0 fa2 fb0 fb2
    first | rw [if_pos (by omega)] | (rw [if_neg (by omega)]; first | rw [if_pos (by omega)] | rw [if_neg (by omega)])
    go_enter Tryz.func30, Tryz.ntmps30
    go_wp2
    go_ret
    exact ⟨rfl, Below.refl _ _⟩
set_option maxHeartbeats 800000 in
theorem rOr_any (a b : Int) (w : World) : Calls Tryz.prog 32 #[.int .i64 a, .int .i64 b] w fun e w' => e = .returned (.int .i64 (vor a b)) ∧ Below w.heap.size w w' := by
  unfold vor
  have ka : a = 0 ∨ a = 2 ∨ (a ≠ 0 ∧ a ≠ 2) := by omega
  have kb : b = 0 ∨ b = 2 ∨ (b ≠ 0 ∧ b ≠ 2) := by omega
  have fa0 : a ≠ 0 → (a == 0) = false := fun h => by simpa using h
  have fa2 : a ≠ 2 → (a == 2) = false := fun h => by simpa using h
  have fb0 : b ≠ 0 → (b == 0) = false := fun h => by simpa using h
  have fb2 : b ≠ 2 → (b == 2) = false := fun h => by simpa using h
  rcases ka with rfl | rfl | ⟨a0, a2⟩ <;> rcases kb with rfl | rfl | ⟨b0, b2⟩
  all_goals
    (try have xa0 := fa0 a0)
    (try have xa2 := fa2 a2)
    (try have xb0 := fb0 b0)
    (try have xb2 := fb2 b2)
    clear fa0 fa2 fb0 fb2
    first | rw [if_pos (by omega)] | (rw [if_neg (by omega)]; first | rw [if_pos (by omega)] | rw [if_neg (by omega)])
    go_enter Tryz.func32, Tryz.ntmps32
    go_wp2
    go_ret
    exact ⟨rfl, Below.refl _ _⟩
/-- What combined answers for two truth values. -/
def cmbT (d a b : Int) : Int := if a = d ∨ b = d then d else if a = vnot d ∧ b = vnot d then vnot d else 1
set_option maxRecDepth 100000 in
set_option maxHeartbeats 1600000 in
theorem combined_two (d a b : Int) (g c : Nat) (w : World) (hg : g < w.heap.size) (h0 : w.cell? ⟨g, 0, none⟩ = some (.int .i64 a)) (h1 : w.cell? ⟨g, 1, none⟩ = some (.int .i64 b)) :
    Calls Tryz.prog 51 #[.int .i64 d, .slice (some ⟨g, 0, none⟩) 2 c] w fun e w' => e = .returned (.int .i64 (cmbT d a b)) ∧ Below w.heap.size w w' := by
  generalize hR : cmbT d a b = R
  have HR := Lib.hid hR
  have HN := Lib.hid (fun w' => pNot_any d w')
  generalize hnd : vnot d = nd at *
  have HD : Hid (cmbT d a b = if a = d ∨ b = d then d else if a = nd ∧ b = nd then nd else 1) := Lib.hid (by rw [← hnd]; rfl)
  clear hR hnd
  go_enter Tryz.func51, Tryz.ntmps51
  go_wp2_with fail
  refine (HN.out w).mono ?_
  rintro e w1 ⟨rfl, hb1⟩
  go_wp2
  go_loopw [5, 12] (fun r i wr => ∃ k : Nat, k ≤ 2 ∧ i = .int .i64 k ∧ Hid ((k = 0 → r = .int .i64 nd) ∧ (k = 1 → a ≠ d ∧ r = .int .i64 (if a = nd then nd else 1)) ∧ (k = 2 → r = .int .i64 R)) ∧ Below w.heap.size w wr) (fun _ i _ => 2 - (intOf i).toNat)
  case atStart => exact ⟨0, by omega, rfl, Lib.hid ⟨fun _ => rfl, fun h => by omega, fun h => by omega⟩, hb1⟩
  case round =>
    obtain ⟨k, hk, rfl, hr, hbr⟩ := hrel
    have hbz := hbr.size
    have d0 := (hbr.cell (p := ⟨g, 0, none⟩) hg).trans h0
    have d1 := (hbr.cell (p := ⟨g, 1, none⟩) hg).trans h1
    have hk3 : k = 0 ∨ k = 1 ∨ k = 2 := by omega
    rcases hk3 with rfl | rfl | rfl
    · have e := hr.out.1 rfl
      subst e
      clear hr
      by_cases ha : a = d
      · have HE : d = R := by rw [← HR.out, HD.out, if_pos (.inl ha)]
        subst HE
        subst ha
        clear HR HD
        go_wp2
        go_ret
        exact ⟨rfl, hbr⟩
      · have ka : (a == d) = false := by simpa using ha
        have HA := Lib.hid ha
        clear ha
        by_cases hn : a = nd
        · subst hn
          go_wp2_with (go_at_call 27; refine (HN.out _).mono ?_; rintro e w2 ⟨rfl, hb2⟩)
          go_roundw
          case rel => exact ⟨1, by omega, by go_num, Lib.hid ⟨fun h => by omega, fun _ => ⟨HA.out, by simp⟩, fun h => by omega⟩, hbr.trans (hb2.mono hbz)⟩
          case measure => simp [intOf] <;> omega
        · have kn : (a == nd) = false := by simpa using hn
          have HNn := Lib.hid hn
          clear hn
          go_wp2_with (go_at_call 27; refine (HN.out _).mono ?_; rintro e w2 ⟨rfl, hb2⟩)
          go_roundw
          case rel => exact ⟨1, by omega, by go_num, Lib.hid ⟨fun h => by omega, fun _ => ⟨HA.out, by rw [if_neg HNn.out]⟩, fun h => by omega⟩, hbr.trans (hb2.mono hbz)⟩
          case measure => simp [intOf] <;> omega
    · obtain ⟨hA, e⟩ := hr.out.2.1 rfl
      have HA := Lib.hid hA
      by_cases hb : b = d
      · have HE : d = R := by rw [← HR.out, HD.out, if_pos (.inr hb)]
        subst HE
        subst hb
        generalize (if a = nd then nd else (1 : Int)) = x at *
        subst e
        clear HR HD hr hA
        go_wp2
        go_ret
        exact ⟨rfl, hbr⟩
      · have kb : (b == d) = false := by simpa using hb
        have HB := Lib.hid hb
        clear hb
        by_cases hn : b = nd
        · have HX : Hid (R = if a = nd then nd else 1) := Lib.hid (by
            rw [← HR.out, HD.out, if_neg (fun h => by rcases h with h | h; exact HA.out h; exact HB.out h)]
            by_cases h : a = nd
            · rw [if_pos ⟨h, hn⟩, if_pos h]
            · rw [if_neg (fun h2 => h h2.1), if_neg h])
          subst hn
          generalize hx : (if a = b then b else (1 : Int)) = x at *
          subst e
          have HX2 := Lib.hid hx
          clear hx hr hA
          go_wp2_with (go_at_call 27; refine (HN.out _).mono ?_; rintro e w2 ⟨rfl, hb2⟩)
          go_roundw
          case rel => exact ⟨2, by omega, by go_num, Lib.hid ⟨fun h => by omega, fun h => by omega, fun _ => by rw [HX.out]⟩, hbr.trans (hb2.mono hbz)⟩
          case measure => simp [intOf] <;> omega
        · have kn : (b == nd) = false := by simpa using hn
          have HX : Hid (R = 1) := Lib.hid (by
            rw [← HR.out, HD.out, if_neg (fun h => by rcases h with h | h; exact HA.out h; exact HB.out h), if_neg (fun h => hn h.2)])
          generalize hx : (if a = nd then nd else (1 : Int)) = x at *
          subst e
          clear hx hr hA hn
          go_wp2_with (go_at_call 27; refine (HN.out _).mono ?_; rintro e w2 ⟨rfl, hb2⟩)
          go_roundw
          case rel => exact ⟨2, by omega, by go_num, Lib.hid ⟨fun h => by omega, fun h => by omega, fun _ => by rw [HX.out]⟩, hbr.trans (hb2.mono hbz)⟩
          case measure => simp [intOf] <;> omega
    · have e := hr.out.2.2 rfl
      subst e
      clear hr
      go_wp2
      go_ret
      exact ⟨rfl, hbr⟩
theorem cmb_and (a b : Int) : cmbT 0 a b = vand a b := by
  unfold cmbT vand vnot
  simp
theorem cmb_or (a b : Int) : cmbT 2 a b = vor a b := by
  unfold cmbT vor vnot
  simp
theorem two_new (w : World) (x y : Value) (t : TypeId) : Below w.heap.size w (w.alloc (.cells #[x, y] t)) ∧ w.heap.size < (w.alloc (.cells #[x, y] t)).heap.size ∧ (w.alloc (.cells #[x, y] t)).cell? ⟨w.heap.size, 0, none⟩ = some x ∧ (w.alloc (.cells #[x, y] t)).cell? ⟨w.heap.size, 1, none⟩ = some y := by
  refine ⟨(Below.refl _ _).alloc (Nat.le_refl _) _, by rw [World.size_alloc]; omega, ?_, ?_⟩
  · rw [cell_of_row _ _ 0 #[x, y] t (0, 0) (heap_alloc_new w _)]; rfl
  · rw [cell_of_row _ _ 1 #[x, y] t (0, 0) (heap_alloc_new w _)]; rfl
set_option maxHeartbeats 800000 in
theorem pAnd_any (a b : Int) (w : World) : Calls Tryz.prog 29 #[.int .i64 a, .int .i64 b] w fun e w' => e = .returned (.int .i64 (vand a b)) ∧ Below w.heap.size w w' := by
  rw [← cmb_and]
  obtain ⟨b1, b2, b3, b4⟩ := two_new w (.int .i64 a) (.int .i64 b) 3
  have HX := Lib.hid (combined_two 0 a b w.heap.size 2 _ b2 b3 b4)
  generalize cmbT 0 a b = R at *
  clear b2 b3 b4
  go_enter Tryz.func29, Tryz.ntmps29
  go_wp2_with fail
  refine HX.out.mono ?_
  rintro e w1 ⟨rfl, hb1⟩
  have B := b1.trans (hb1.mono b1.size)
  go_wp2
  go_ret
  exact ⟨rfl, B⟩
set_option maxHeartbeats 800000 in
theorem pOr_any (a b : Int) (w : World) : Calls Tryz.prog 31 #[.int .i64 a, .int .i64 b] w fun e w' => e = .returned (.int .i64 (vor a b)) ∧ Below w.heap.size w w' := by
  rw [← cmb_or]
  obtain ⟨b1, b2, b3, b4⟩ := two_new w (.int .i64 a) (.int .i64 b) 3
  have HX := Lib.hid (combined_two 2 a b w.heap.size 2 _ b2 b3 b4)
  generalize cmbT 2 a b = R at *
  clear b2 b3 b4
  go_enter Tryz.func31, Tryz.ntmps31
  go_wp2_with fail
  refine HX.out.mono ?_
  rintro e w1 ⟨rfl, hb1⟩
  have B := b1.trans (hb1.mono b1.size)
  go_wp2
  go_ret
  exact ⟨rfl, B⟩
end Go.Proofs.YthjnkekkjjcnfaaGreatDoor
