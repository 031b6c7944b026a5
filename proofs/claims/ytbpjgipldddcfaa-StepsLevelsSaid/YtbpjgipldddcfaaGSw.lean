import Derived.Test.YtbpjgipldddcfaaGSo
import Derived.Deep.RegionHeld3
import Derived.StillTailTactics
import Derived.IntWalk
import Derived.WalkKit
import Derived.WalkSpells
import Derived.WalkLawsBesides
import Derived.Deep.QuietTactic
import Derived.BigQuiet
import Derived.Handy
import Derived.Lib.Hide
/-
  Contract of sweep: the elementary periods of a combination, in ascending order. Conditions: the lists hold at most 200000 periods; the function value answers by f and writes nothing old.
-/
namespace Go.Proofs.Ytbpjgipldddcfaa
set_option maxRecDepth 100000
set_option linter.unusedVariables false
set_option linter.unusedSimpArgs false
open Go.RowKit

theorem atOf_get {D : List Bd} {k : Nat} {d : Bd} (h : D[k]? = some d) : atOf D k = d.1 := by unfold atOf; rw [List.getD_eq_getElem?_getD, h]; rfl
theorem sm_step (j : Int) {D : List Bd} {k : Nat} {d : Bd} (h : D[k]? = some d) : sm j (D.take (k + 1)) = sm j (D.take k) + (if d.2.1 = j then d.2.2 else 0) := by
  obtain ⟨hlt, rfl⟩ := List.getElem?_eq_some_iff.1 h
  rw [List.take_succ_eq_append_getElem hlt, sm_append, sm_one]
theorem swS_no {f : Bool → Bool → Bool} {D : List Bd} {k : Nat} (h : ¬ (0 < k ∧ atOf D (k - 1) < atOf D k ∧ f (decide (0 < sm 0 (D.take k))) (decide (0 < sm 1 (D.take k))) = true)) : swS f D (k + 1) = swS f D k := by
  rw [swS, if_neg h, List.append_nil]
theorem swS_yes {f : Bool → Bool → Bool} {D : List Bd} {k : Nat} (h : 0 < k ∧ atOf D (k - 1) < atOf D k ∧ f (decide (0 < sm 0 (D.take k))) (decide (0 < sm 1 (D.take k))) = true) : swS f D (k + 1) = swS f D k ++ [(atOf D (k - 1), atOf D k)] := by
  rw [swS, if_pos h]
/-- A function value that is asked with two bools. -/
def Asks (g : Nat) (f : Bool → Bool → Bool) : Prop := ∀ (x y : Bool) (W : World), Calls Try.prog g #[.bool x, .bool y] W fun e w' => e = .returned (.bool (f x y)) ∧ Below W.heap.size W w'
def sumsA (D : List Bd) (k : Nat) : Array Value := #[.int .i64 (sm 0 (D.take k)), .int .i64 (sm 1 (D.take k))]
theorem sums_zero {D : List Bd} {k : Nat} {x c : Int} (h : D[k]? = some (x, 0, c)) : (sumsA D k).setIfInBounds 0 (.int .i64 (sm 0 (D.take k) + c)) = sumsA D (k + 1) := by
  unfold sumsA; rw [sm_step 0 h, sm_step 1 h]; simp
theorem sums_one {D : List Bd} {k : Nat} {x c : Int} (h : D[k]? = some (x, 1, c)) : (sumsA D k).setIfInBounds 1 (.int .i64 (sm 1 (D.take k) + c)) = sumsA D (k + 1) := by
  unfold sumsA; rw [sm_step 0 h, sm_step 1 h]; simp

set_option maxRecDepth 100000 in
set_option maxHeartbeats 6400000 in
theorem sweep_any (g : Nat) (f : Bool → Bool → Bool) (hgf : Asks g f) (eg : ∀ args w, (callFunc g args).run Try.prog w = .ok (.enter g args) w) (u v : Value) (a b : List (Int × Int)) (w : World) (L L' : Nat) (hu : RdP w L w.heap.size u a) (hv : RdP w L' w.heap.size v b) (ha : a.length ≤ 200000) (hb : b.length ≤ 200000) :
    Calls Try.prog 40 #[u, v, .func (.func g) #[] #[]] w (RetPers w (elem (gOf f a b) (pts (a ++ b)))) := by
  have hla := bnds_len 0 a
  have hlb := bnds_len 1 b
  go_enter Try.func40, Try.ntmps40
  go_wp2_with fail
  refine (boundsOf_any u a 0 w L hu ha).mono ?_
  rintro e w1 ⟨v1, rfl, hr1, hb1⟩
  have z1 := hb1.size
  go_wp2_with fail
  refine (boundsOf_any v b 1 w1 L' ((hv.below hb1).more z1 (Nat.le_refl _)) hb).mono ?_
  rintro e w2 ⟨v2, rfl, hr2, hb2⟩
  have z2 := hb2.size
  have B2 := hb1.trans (hb2.mono z1)
  have HR1 := Lib.hid hr1
  have HR2 := Lib.hid hr2
  obtain ⟨A1, c1, rfl, _, _⟩ := hr1
  obtain ⟨A2, c2, rfl, _, _⟩ := hr2
  go_wp2_with fail
  have bW : Below w2.heap.size w2 (w2.alloc (.cells #[.slice A1 (bnds 0 a).length c1, .slice A2 (bnds 1 b).length c2] 74)) := (Below.refl _ _).alloc (Nat.le_refl _) _
  have oW := Own.new w2 74 #[.slice A1 (bnds 0 a).length c1, .slice A2 (bnds 1 b).length c2]
  have sW : w2.heap.size < (w2.alloc (.cells #[.slice A1 (bnds 0 a).length c1, .slice A2 (bnds 1 b).length c2] 74)).heap.size := by simp
  refine (concat_any _ _ (bnds 0 a) (bnds 1 b) w2.heap.size _ w.heap.size w1.heap.size sW (oW.cell 0) (oW.cell 1) (((HR1.out.below (hb2.trans (bW.mono z2))).more (by omega) (Nat.le_refl _))) ((HR2.out.below bW).more (by omega) (Nat.le_refl _)) (by omega) (by omega)).mono ?_
  rintro e w3 ⟨v3, rfl, hown3, hb3⟩
  have B3 := B2.trans ((bW.mono (by omega)).trans (hb3.mono (by omega)))
  have z3 := hb3.size
  clear HR1 HR2 hb1 hb2 oW hu hv
  go_wp2_with fail
  refine (sort_bd v3 _ w3 _ hown3 (by rw [List.length_append]; omega)).mono ?_
  rintro e w4 ⟨rfl, D, hperm, hsort, hrD, hb4⟩
  have B4 := B3.trans (hb4.mono (by omega))
  have hDl : D.length ≤ 1000000 := by have := hperm.length_eq; rw [List.length_append] at this; omega
  have hDin : ∀ (k : Nat) (d : Bd), D[k]? = some d → (d.2.1 = 0 ∨ d.2.1 = 1) ∧ (d.2.2 = 1 ∨ d.2.2 = -1) := fun k d hk => by
    have hm := hperm.mem_iff.1 (List.mem_of_getElem? hk)
    rcases List.mem_append.1 hm with hm | hm
    · have := bnds_in _ _ d hm; exact ⟨.inl this.1, this.2.1⟩
    · have := bnds_in _ _ d hm; exact ⟨.inr this.1, this.2.1⟩
  have hRes := Lib.hid (sweep_is f a b hsort hperm)
  have hSM : ∀ j k, -1000000 ≤ sm j (D.take k) ∧ sm j (D.take k) ≤ 1000000 := fun j k => by
    have h1 := sm_bd j (D.take k) (fun d hd => by
      obtain ⟨i, hi⟩ := List.mem_iff_getElem?.1 (List.mem_of_mem_take hd)
      exact (hDin i d hi).2)
    have h2 : (D.take k).length ≤ 1000000 := by rw [List.length_take]; omega
    omega
  have HSM := Lib.hid hSM
  have HDin := Lib.hid hDin
  have hRD := Lib.hid hrD
  obtain ⟨AD, cD, rfl, hD63, _⟩ := hrD
  have z4 := B4.size
  have z34 := hb4.size
  clear hperm hsort hown3 hb3 hb4 bW hSM hDin hla hlb
  generalize elem (gOf f a b) (pts (a ++ b)) = R at *
  have oA := Own.new w4 81 #[.int .i64 0, .int .i64 0]
  have bA : Below w4.heap.size w4 (w4.alloc (.cells #[.int .i64 0, .int .i64 0] 81)) := (Below.refl _ _).alloc (Nat.le_refl _) _
  have sA : w4.heap.size < (w4.alloc (.cells #[.int .i64 0, .int .i64 0] 81)).heap.size := by simp
  have sA1 : w4.heap.size + 1 ≤ (w4.alloc (.cells #[.int .i64 0, .int .i64 0] 81)).heap.size := by simp
  go_wp2
  generalize hW9 : w4.alloc (.cells #[.int .i64 0, .int .i64 0] 81) = W9 at *
  clear hW9
  generalize hh9 : w4.heap.size = h9 at *
  have hRD9 := Lib.hid (hRD.out.below bA)
  have oA' : Own W9 h9 81 (sumsA D 0) := oA
  go_loopw [8, 22] (fun o i wr => ∃ k : Nat, k ≤ D.length ∧ i = .int .i64 k ∧ Own wr h9 81 (sumsA D k) ∧ wr.ownsRow (h9 + 1) 33 2 o (swS f D k).length (flatP (swS f D k)) ∧ Below h9 W9 wr) (fun _ i _ => D.length - (intOf i).toNat)
  case atStart => exact ⟨0, by omega, rfl, oA', own_nilP _ _, Below.refl _ _⟩
  case round =>
    obtain ⟨k, hk, rfl, o9, hown, hbr⟩ := hrel
    have hbz := hbr.size
    have HO := Lib.hid hown
    have hOL := Lib.hid (World.ownsRow.lt hown)
    clear hown
    have hle := swS_len f D k
    by_cases hlt : k < D.length
    · have hx := List.getElem?_eq_getElem hlt
      generalize D[k] = d at hx
      obtain ⟨x, j, c⟩ := d
      have hxa := atOf_get hx
      obtain ⟨ad, rfl, _, hab, c0, c1, c2⟩ := (hRD9.out.below hbr).at hx
      rw [add_next] at c1
      rw [add_next2] at c2
      dsimp only at c0 c1 c2 hxa
      have bX0 : Below wr.heap.size wr (wr.alloc (.cells #[.int .i64 x, .int .i64 j, .int .i64 c] 77)) := (Below.refl _ _).alloc (Nat.le_refl _) _
      have oX0 := Own.new wr 77 #[.int .i64 x, .int .i64 j, .int .i64 c]
      have sX0 : wr.heap.size < (wr.alloc (.cells #[.int .i64 x, .int .i64 j, .int .i64 c] 77)).heap.size := by simp
      have o9X := Own.alloc o9 (.cells #[.int .i64 x, .int .i64 j, .int .i64 c] 77)
      have HOX := Lib.hid (World.ownsRow.alloc HO.out (.cells #[.int .i64 x, .int .i64 j, .int .i64 c] 77))
      have L9 := o9.lt
      by_cases hk0 : 0 < k
      · obtain ⟨m, rfl⟩ : ∃ m, k = m + 1 := ⟨k - 1, by omega⟩
        have hxp := List.getElem?_eq_getElem (show m < D.length by omega)
        generalize D[m] = d' at hxp
        obtain ⟨y, j', c'⟩ := d'
        have hya : atOf D (m + 1 - 1) = y := atOf_get hxp
        obtain ⟨_, e1, _, _, p0, _, _⟩ := (hRD9.out.below hbr).at hxp
        injection e1 with e1
        subst e1
        dsimp only at p0
        have p1 := (bX0.cell (p := ad.add (m * 3)) (by rw [add_block]; omega)).trans p0
        have i1 : IntKind.i64.wrap ((m : Int) + 1 - 1) = m := by rw [show (m : Int) + 1 - 1 = m by omega]; exact IntWalk.i64_in _ (by omega)
        have i7 : IntKind.i64.wrap (m : Int) = m := IntWalk.i64_in _ (by omega)
        have hkd : decide (((m + 1 : Nat) : Int) > 0) = true := by simp
        have i2 : (0 : Int) ≤ (m : Int) := by omega
        have i3 : (m : Int) < (D.length : Int) := by omega
        have i5 : (0 : Int) < (m : Int) + 1 := by omega
        by_cases hyx : y < x
        · have hyd : decide (y < x) = true := by simp [hyx]
          cases hF : f (decide (0 < sm 0 (D.take (m + 1)))) (decide (0 < sm 1 (D.take (m + 1))))
          · have hF2 : f (decide (sm 0 (D.take (m + 1)) > 0)) (decide (sm 1 (D.take (m + 1)) > 0)) = false := hF
            have hN := Lib.hid (swS_no (f := f) (D := D) (k := m + 1) (fun h => by rw [hF] at h; exact absurd h.2.2 (by decide)))
            go_wp2

            have o9V := o9X
            have HVX := HOX
            generalize hV : wr.alloc (.cells #[.int .i64 x, .int .i64 j, .int .i64 c] 77) = V at *
            clear hV
            generalize hgN : wr.heap.size = gN at *
            have f0 : ∀ p : After V, p.w.cell? ⟨gN, 0, none⟩ = some (.int .i64 x) := after_cell sX0 (oX0.cell 0)
            have f1 : ∀ p : After V, p.w.cell? ⟨h9, 0, none⟩ = some (.int .i64 (sm 0 (D.take (m + 1)))) := after_cell (by show h9 < V.heap.size; omega) (o9V.cell 0)
            have f2 : ∀ p : After V, p.w.cell? ⟨h9, 1, none⟩ = some (.int .i64 (sm 1 (D.take (m + 1)))) := after_cell (by show h9 < V.heap.size; omega) (o9V.cell 1)
            have f3 : ∀ p : After V, p.w.cell? (ad.add (m * 3)) = some (.int .i64 y) := after_cell (by rw [add_block]; omega) p1
            (refine wp_region_after (by kernel_rfl) (by kernel_rfl) ?_; (repeat (go_big_quiet_step ((go_at_fn g; exact calls_after (hgf _ _ _))))); refine wpQuiet_nil ?_; intro wq hw0; obtain ⟨⟨wq0, hbq⟩, hw1⟩ := hw0; subst hw1; (try dsimp only))

            have BV : Below h9 W9 V := hbr.trans (bX0.mono (by omega))
            have zV := BV.size
            have zq := hbq.size
            have BX : Below h9 W9 wq := BV.trans (hbq.mono (by omega))
            have o9q := Own.below o9V hbq (by omega)
            have HXq := Lib.hid (own_below HVX.out hbq)
            have oN := Own.below oX0 hbq sX0
            clear f0 f1 f2 o9X o9V o9 oX0 bX0 HOX HVX HO BV
            clear f3
            generalize wq = X at *
            have o9 := o9q
            have HX := HXq
            go_wp2

            have n1 : X.cell? ⟨gN, 1, none⟩ = some (.int .i64 j) := oN.cell 1
            have n2 : X.cell? ⟨gN, 2, none⟩ = some (.int .i64 c) := oN.cell 2
            have lX : h9 < X.heap.size := o9.lt

            have hj := (HDin.out (m + 1) _ hx).1
            have hc := (HDin.out (m + 1) _ hx).2
            dsimp only at hj hc
            have hs0 := HSM.out 0 (m + 1)
            have hs1 := HSM.out 1 (m + 1)
            have hS0 := fun (e : j = 0) => Lib.hid (sums_zero (c := c) (by rw [e] at hx; exact hx))
            have hS1 := fun (e : j = 1) => Lib.hid (sums_one (c := c) (by rw [e] at hx; exact hx))
            have k0 : X.cell? ⟨h9, 0, none⟩ = some (.int .i64 (sm 0 (D.take (m + 1)))) := o9.cell 0
            have k1 : X.cell? ⟨h9, 1, none⟩ = some (.int .i64 (sm 1 (D.take (m + 1)))) := o9.cell 1
            have q0 := o9.free 0
            have q1 := o9.free 1
            have i8 : IntKind.i64.wrap (sm 0 (D.take (m + 1)) + c) = sm 0 (D.take (m + 1)) + c := IntWalk.i64_in _ (by omega)
            have i9 : IntKind.i64.wrap (sm 1 (D.take (m + 1)) + c) = sm 1 (D.take (m + 1)) + c := IntWalk.i64_in _ (by omega)
            clear hx hc hs0 hs1
            rcases hj with rfl | rfl
            · have hSS := hS0 rfl
              clear hS0 hS1 i9
              generalize sm 0 (D.take (m + 1)) = s0 at *
              generalize sm 1 (D.take (m + 1)) = s1 at *
              go_still_tail 8, (by kernel_rfl)
              change wpList _ _ _ _ _ X.drew
              have kd0 : X.drew.cell? ⟨h9, 0, none⟩ = some (.int .i64 s0) := k0
              have qd0 : X.drew.frozen? ⟨h9, 0, none⟩ = false := q0
              go_wp2
              go_roundw
              case rel => exact ⟨(m + 1) + 1, by omega, by go_num, by rw [← hSS.out]; exact Own.store (show Own X.drew _ _ _ from o9) 0 _, by rw [hN.out]; exact own_setCell (World.ownsRow.drew HX.out) (by show h9 < h9 + 1; omega) _, ((BX.trans (below_drewN (Below.refl _ _) 1)).setCell (by show h9 ≤ h9; exact Nat.le_refl _) _)⟩
              case measure => simp [intOf]; omega
            · have hSS := hS1 rfl
              clear hS0 hS1 i8
              generalize sm 0 (D.take (m + 1)) = s0 at *
              generalize sm 1 (D.take (m + 1)) = s1 at *
              go_still_tail 8, (by kernel_rfl)
              change wpList _ _ _ _ _ X.drew
              have kd1 : X.drew.cell? ⟨h9, 1, none⟩ = some (.int .i64 s1) := k1
              have qd1 : X.drew.frozen? ⟨h9, 1, none⟩ = false := q1
              go_wp2
              go_roundw
              case rel => exact ⟨(m + 1) + 1, by omega, by go_num, by rw [← hSS.out]; exact Own.store (show Own X.drew _ _ _ from o9) 1 _, by rw [hN.out]; exact own_setCell (World.ownsRow.drew HX.out) (by show h9 < h9 + 1; omega) _, ((BX.trans (below_drewN (Below.refl _ _) 1)).setCell (by show h9 ≤ h9; exact Nat.le_refl _) _)⟩
              case measure => simp [intOf]; omega
          · have hF2 : f (decide (sm 0 (D.take (m + 1)) > 0)) (decide (sm 1 (D.take (m + 1)) > 0)) = true := hF
            have hN := Lib.hid (swS_yes (f := f) (D := D) (k := m + 1) ⟨by omega, by rw [hya, hxa]; exact hyx, hF⟩)
            rw [hya, hxa] at hN
            go_wp2

            have o9V := o9X
            have HVX := HOX
            generalize hV : wr.alloc (.cells #[.int .i64 x, .int .i64 j, .int .i64 c] 77) = V at *
            clear hV
            generalize hgN : wr.heap.size = gN at *
            have f0 : ∀ p : After V, p.w.cell? ⟨gN, 0, none⟩ = some (.int .i64 x) := after_cell sX0 (oX0.cell 0)
            have f1 : ∀ p : After V, p.w.cell? ⟨h9, 0, none⟩ = some (.int .i64 (sm 0 (D.take (m + 1)))) := after_cell (by show h9 < V.heap.size; omega) (o9V.cell 0)
            have f2 : ∀ p : After V, p.w.cell? ⟨h9, 1, none⟩ = some (.int .i64 (sm 1 (D.take (m + 1)))) := after_cell (by show h9 < V.heap.size; omega) (o9V.cell 1)
            have f3 : ∀ p : After V, p.w.cell? (ad.add (m * 3)) = some (.int .i64 y) := after_cell (by rw [add_block]; omega) p1
            (refine wp_region_after (by kernel_rfl) (by kernel_rfl) ?_; (repeat (go_big_quiet_step ((go_at_fn g; exact calls_after (hgf _ _ _))))); refine wpQuiet_nil ?_; intro wq hw0; obtain ⟨⟨wq0, hbq⟩, hw1⟩ := hw0; subst hw1; (try dsimp only))

            have BV : Below h9 W9 V := hbr.trans (bX0.mono (by omega))
            have zV := BV.size
            have zq := hbq.size
            have BX : Below h9 W9 wq := BV.trans (hbq.mono (by omega))
            have o9q := Own.below o9V hbq (by omega)
            have HXq := Lib.hid (own_below HVX.out hbq)
            have oN := Own.below oX0 hbq sX0
            have pq : wq.cell? (ad.add (m * 3)) = some (.int .i64 y) := f3 ⟨wq, hbq⟩
            have nq0 : wq.cell? ⟨gN, 0, none⟩ = some (.int .i64 x) := oN.cell 0
            clear f0 f1 f2 f3 o9X o9V o9 oX0 bX0 HOX HVX HO BV p1
            go_wp2
            have hgNl := oN.lt
            have h9l := o9q.lt
            have HK : Hid (∀ w' : World, Below wq.heap.size wq w' → w'.cell? (ad.add (m * 3)) = some (.int .i64 y) ∧ w'.cell? ⟨gN, 0, none⟩ = some (.int .i64 x)) := Lib.hid fun w' hb => ⟨(hb.cell (p := ad.add (m * 3)) (by rw [add_block]; omega)).trans pq, (hb.cell (p := ⟨gN, 0, none⟩) hgNl).trans nq0⟩
            have HK2 : Hid (∀ w' : World, Below (h9 + 1) wq w' → Own w' gN 77 #[.int .i64 x, .int .i64 j, .int .i64 c] → w'.cell? (ad.add (m * 3)) = some (.int .i64 y) ∧ w'.cell? ⟨gN, 0, none⟩ = some (.int .i64 x)) := Lib.hid fun w' hb ho => ⟨(hb.cell (p := ad.add (m * 3)) (by rw [add_block]; omega)).trans pq, ho.cell 0⟩
            clear pq nq0
            go_region_held3 (fun w' => w'.cell? (ad.add (m * 3)) = some (.int .i64 y) ∧ w'.cell? ⟨gN, 0, none⟩ = some (.int .i64 x))
              (first | exact HK2.out _ hb4 oN3 | exact HK.out _ (by (repeat' (first | (with_reducible exact Below.refl _ _) | (with_reducible assumption) | (with_reducible refine Below.alloc ?_ ?_ _) | (with_reducible refine Below.drew ?_) | (with_reducible refine Below.setCell ?_ ?_ _) | (with_reducible refine Below.trans ?_ (Below.mono (by assumption) ?_)) | go_size))))
              ((refine step_append_per2 _ (by rfl) _ _ (by rfl) (h9 + 1) _ (swS f D (m + 1)) (by rfl) (World.ownsRow.alloc (World.ownsRow.drew HXq.out) _) ⟨wq.heap.size, 0, none⟩ y x (by rfl) (cell_two_new _ _ _ _) ?_ ?_ ?_; (focus omega); (focus go_size); intro v3 w3 hown3 hb3 hg3; have hb4 : Below (h9 + 1) wq w3 := (by (repeat' (first | (with_reducible exact Below.refl _ _) | (with_reducible assumption) | (with_reducible refine Below.alloc ?_ ?_ _) | (with_reducible refine Below.drew ?_) | (with_reducible refine Below.setCell ?_ ?_ _) | (with_reducible refine Below.trans ?_ (Below.mono (by assumption) ?_)) | go_size))); have oN3 : Own w3 gN 77 #[.int .i64 x, .int .i64 j, .int .i64 c] := (hg3.block gN (by simp; omega) (fun e => by have := hOL.out gN e.symm; omega)).trans (Own.alloc (show Own wq.drew _ _ _ from oN) _)))

            have BX3 : Below h9 W9 w3 := BX.trans (hb4.mono (by omega))
            have o93 := Own.below o9q hb4 (by omega)
            clear hb4 BX o9q oN HK HK2
            generalize w3 = X at *
            have o9 := o93
            have oN := oN3
            have BX := BX3
            have HX := Lib.hid hown3
            clear hown3 o93 oN3 BX3 hb3 hg3
            go_wp2

            have n1 : X.cell? ⟨gN, 1, none⟩ = some (.int .i64 j) := oN.cell 1
            have n2 : X.cell? ⟨gN, 2, none⟩ = some (.int .i64 c) := oN.cell 2
            have lX : h9 < X.heap.size := o9.lt

            have hj := (HDin.out (m + 1) _ hx).1
            have hc := (HDin.out (m + 1) _ hx).2
            dsimp only at hj hc
            have hs0 := HSM.out 0 (m + 1)
            have hs1 := HSM.out 1 (m + 1)
            have hS0 := fun (e : j = 0) => Lib.hid (sums_zero (c := c) (by rw [e] at hx; exact hx))
            have hS1 := fun (e : j = 1) => Lib.hid (sums_one (c := c) (by rw [e] at hx; exact hx))
            have k0 : X.cell? ⟨h9, 0, none⟩ = some (.int .i64 (sm 0 (D.take (m + 1)))) := o9.cell 0
            have k1 : X.cell? ⟨h9, 1, none⟩ = some (.int .i64 (sm 1 (D.take (m + 1)))) := o9.cell 1
            have q0 := o9.free 0
            have q1 := o9.free 1
            have i8 : IntKind.i64.wrap (sm 0 (D.take (m + 1)) + c) = sm 0 (D.take (m + 1)) + c := IntWalk.i64_in _ (by omega)
            have i9 : IntKind.i64.wrap (sm 1 (D.take (m + 1)) + c) = sm 1 (D.take (m + 1)) + c := IntWalk.i64_in _ (by omega)
            clear hx hc hs0 hs1
            rcases hj with rfl | rfl
            · have hSS := hS0 rfl
              clear hS0 hS1 i9
              generalize sm 0 (D.take (m + 1)) = s0 at *
              generalize sm 1 (D.take (m + 1)) = s1 at *
              go_still_tail 8, (by kernel_rfl)
              change wpList _ _ _ _ _ X.drew
              have kd0 : X.drew.cell? ⟨h9, 0, none⟩ = some (.int .i64 s0) := k0
              have qd0 : X.drew.frozen? ⟨h9, 0, none⟩ = false := q0
              go_wp2
              go_roundw
              case rel => exact ⟨(m + 1) + 1, by omega, by go_num, by rw [← hSS.out]; exact Own.store (show Own X.drew _ _ _ from o9) 0 _, by rw [hN.out]; exact own_setCell (World.ownsRow.drew HX.out) (by show h9 < h9 + 1; omega) _, ((BX.trans (below_drewN (Below.refl _ _) 1)).setCell (by show h9 ≤ h9; exact Nat.le_refl _) _)⟩
              case measure => simp [intOf]; omega
            · have hSS := hS1 rfl
              clear hS0 hS1 i8
              generalize sm 0 (D.take (m + 1)) = s0 at *
              generalize sm 1 (D.take (m + 1)) = s1 at *
              go_still_tail 8, (by kernel_rfl)
              change wpList _ _ _ _ _ X.drew
              have kd1 : X.drew.cell? ⟨h9, 1, none⟩ = some (.int .i64 s1) := k1
              have qd1 : X.drew.frozen? ⟨h9, 1, none⟩ = false := q1
              go_wp2
              go_roundw
              case rel => exact ⟨(m + 1) + 1, by omega, by go_num, by rw [← hSS.out]; exact Own.store (show Own X.drew _ _ _ from o9) 1 _, by rw [hN.out]; exact own_setCell (World.ownsRow.drew HX.out) (by show h9 < h9 + 1; omega) _, ((BX.trans (below_drewN (Below.refl _ _) 1)).setCell (by show h9 ≤ h9; exact Nat.le_refl _) _)⟩
              case measure => simp [intOf]; omega
        · have hyd : decide (y < x) = false := by simp; omega
          have hN := Lib.hid (swS_no (f := f) (D := D) (k := m + 1) (fun h => by rw [hya, hxa] at h; exact absurd h.2.1 hyx))
          go_wp2

          have o9V := o9X
          have HVX := HOX
          generalize hV : wr.alloc (.cells #[.int .i64 x, .int .i64 j, .int .i64 c] 77) = V at *
          clear hV
          generalize hgN : wr.heap.size = gN at *
          have f0 : ∀ p : After V, p.w.cell? ⟨gN, 0, none⟩ = some (.int .i64 x) := after_cell sX0 (oX0.cell 0)
          have f1 : ∀ p : After V, p.w.cell? ⟨h9, 0, none⟩ = some (.int .i64 (sm 0 (D.take (m + 1)))) := after_cell (by show h9 < V.heap.size; omega) (o9V.cell 0)
          have f2 : ∀ p : After V, p.w.cell? ⟨h9, 1, none⟩ = some (.int .i64 (sm 1 (D.take (m + 1)))) := after_cell (by show h9 < V.heap.size; omega) (o9V.cell 1)
          have f3 : ∀ p : After V, p.w.cell? (ad.add (m * 3)) = some (.int .i64 y) := after_cell (by rw [add_block]; omega) p1
          (refine wp_region_after (by kernel_rfl) (by kernel_rfl) ?_; (repeat (go_big_quiet_step (fail))); refine wpQuiet_nil ?_; intro wq hw0; obtain ⟨⟨wq0, hbq⟩, hw1⟩ := hw0; subst hw1; (try dsimp only))

          have BV : Below h9 W9 V := hbr.trans (bX0.mono (by omega))
          have zV := BV.size
          have zq := hbq.size
          have BX : Below h9 W9 wq := BV.trans (hbq.mono (by omega))
          have o9q := Own.below o9V hbq (by omega)
          have HXq := Lib.hid (own_below HVX.out hbq)
          have oN := Own.below oX0 hbq sX0
          clear f0 f1 f2 o9X o9V o9 oX0 bX0 HOX HVX HO BV
          clear f3
          generalize wq = X at *
          have o9 := o9q
          have HX := HXq
          go_wp2

          have n1 : X.cell? ⟨gN, 1, none⟩ = some (.int .i64 j) := oN.cell 1
          have n2 : X.cell? ⟨gN, 2, none⟩ = some (.int .i64 c) := oN.cell 2
          have lX : h9 < X.heap.size := o9.lt

          have hj := (HDin.out (m + 1) _ hx).1
          have hc := (HDin.out (m + 1) _ hx).2
          dsimp only at hj hc
          have hs0 := HSM.out 0 (m + 1)
          have hs1 := HSM.out 1 (m + 1)
          have hS0 := fun (e : j = 0) => Lib.hid (sums_zero (c := c) (by rw [e] at hx; exact hx))
          have hS1 := fun (e : j = 1) => Lib.hid (sums_one (c := c) (by rw [e] at hx; exact hx))
          have k0 : X.cell? ⟨h9, 0, none⟩ = some (.int .i64 (sm 0 (D.take (m + 1)))) := o9.cell 0
          have k1 : X.cell? ⟨h9, 1, none⟩ = some (.int .i64 (sm 1 (D.take (m + 1)))) := o9.cell 1
          have q0 := o9.free 0
          have q1 := o9.free 1
          have i8 : IntKind.i64.wrap (sm 0 (D.take (m + 1)) + c) = sm 0 (D.take (m + 1)) + c := IntWalk.i64_in _ (by omega)
          have i9 : IntKind.i64.wrap (sm 1 (D.take (m + 1)) + c) = sm 1 (D.take (m + 1)) + c := IntWalk.i64_in _ (by omega)
          clear hx hc hs0 hs1
          rcases hj with rfl | rfl
          · have hSS := hS0 rfl
            clear hS0 hS1 i9
            generalize sm 0 (D.take (m + 1)) = s0 at *
            generalize sm 1 (D.take (m + 1)) = s1 at *
            go_still_tail 8, (by kernel_rfl)
            change wpList _ _ _ _ _ X.drew
            have kd0 : X.drew.cell? ⟨h9, 0, none⟩ = some (.int .i64 s0) := k0
            have qd0 : X.drew.frozen? ⟨h9, 0, none⟩ = false := q0
            go_wp2
            go_roundw
            case rel => exact ⟨(m + 1) + 1, by omega, by go_num, by rw [← hSS.out]; exact Own.store (show Own X.drew _ _ _ from o9) 0 _, by rw [hN.out]; exact own_setCell (World.ownsRow.drew HX.out) (by show h9 < h9 + 1; omega) _, ((BX.trans (below_drewN (Below.refl _ _) 1)).setCell (by show h9 ≤ h9; exact Nat.le_refl _) _)⟩
            case measure => simp [intOf]; omega
          · have hSS := hS1 rfl
            clear hS0 hS1 i8
            generalize sm 0 (D.take (m + 1)) = s0 at *
            generalize sm 1 (D.take (m + 1)) = s1 at *
            go_still_tail 8, (by kernel_rfl)
            change wpList _ _ _ _ _ X.drew
            have kd1 : X.drew.cell? ⟨h9, 1, none⟩ = some (.int .i64 s1) := k1
            have qd1 : X.drew.frozen? ⟨h9, 1, none⟩ = false := q1
            go_wp2
            go_roundw
            case rel => exact ⟨(m + 1) + 1, by omega, by go_num, by rw [← hSS.out]; exact Own.store (show Own X.drew _ _ _ from o9) 1 _, by rw [hN.out]; exact own_setCell (World.ownsRow.drew HX.out) (by show h9 < h9 + 1; omega) _, ((BX.trans (below_drewN (Below.refl _ _) 1)).setCell (by show h9 ≤ h9; exact Nat.le_refl _) _)⟩
            case measure => simp [intOf]; omega
      · have hkd : decide ((k : Int) > 0) = false := by simp; omega
        have hkd2 : ¬ (k : Int) > 0 := by omega
        have hN := Lib.hid (swS_no (f := f) (D := D) (k := k) (fun h => absurd h.1 hk0))
        go_wp2

        have o9V := o9X
        have HVX := HOX
        generalize hV : wr.alloc (.cells #[.int .i64 x, .int .i64 j, .int .i64 c] 77) = V at *
        clear hV
        generalize hgN : wr.heap.size = gN at *
        have f0 : ∀ p : After V, p.w.cell? ⟨gN, 0, none⟩ = some (.int .i64 x) := after_cell sX0 (oX0.cell 0)
        have f1 : ∀ p : After V, p.w.cell? ⟨h9, 0, none⟩ = some (.int .i64 (sm 0 (D.take k))) := after_cell (by show h9 < V.heap.size; omega) (o9V.cell 0)
        have f2 : ∀ p : After V, p.w.cell? ⟨h9, 1, none⟩ = some (.int .i64 (sm 1 (D.take k))) := after_cell (by show h9 < V.heap.size; omega) (o9V.cell 1)
        (refine wp_region_after (by kernel_rfl) (by kernel_rfl) ?_; (repeat (go_big_quiet_step (fail))); refine wpQuiet_nil ?_; intro wq hw0; obtain ⟨⟨wq0, hbq⟩, hw1⟩ := hw0; subst hw1; (try dsimp only))

        have BV : Below h9 W9 V := hbr.trans (bX0.mono (by omega))
        have zV := BV.size
        have zq := hbq.size
        have BX : Below h9 W9 wq := BV.trans (hbq.mono (by omega))
        have o9q := Own.below o9V hbq (by omega)
        have HXq := Lib.hid (own_below HVX.out hbq)
        have oN := Own.below oX0 hbq sX0
        clear f0 f1 f2 o9X o9V o9 oX0 bX0 HOX HVX HO BV
        generalize wq = X at *
        have o9 := o9q
        have HX := HXq
        go_wp2

        have n1 : X.cell? ⟨gN, 1, none⟩ = some (.int .i64 j) := oN.cell 1
        have n2 : X.cell? ⟨gN, 2, none⟩ = some (.int .i64 c) := oN.cell 2
        have lX : h9 < X.heap.size := o9.lt

        have hj := (HDin.out k _ hx).1
        have hc := (HDin.out k _ hx).2
        dsimp only at hj hc
        have hs0 := HSM.out 0 k
        have hs1 := HSM.out 1 k
        have hS0 := fun (e : j = 0) => Lib.hid (sums_zero (c := c) (by rw [e] at hx; exact hx))
        have hS1 := fun (e : j = 1) => Lib.hid (sums_one (c := c) (by rw [e] at hx; exact hx))
        have k0 : X.cell? ⟨h9, 0, none⟩ = some (.int .i64 (sm 0 (D.take k))) := o9.cell 0
        have k1 : X.cell? ⟨h9, 1, none⟩ = some (.int .i64 (sm 1 (D.take k))) := o9.cell 1
        have q0 := o9.free 0
        have q1 := o9.free 1
        have i8 : IntKind.i64.wrap (sm 0 (D.take k) + c) = sm 0 (D.take k) + c := IntWalk.i64_in _ (by omega)
        have i9 : IntKind.i64.wrap (sm 1 (D.take k) + c) = sm 1 (D.take k) + c := IntWalk.i64_in _ (by omega)
        clear hx hc hs0 hs1
        rcases hj with rfl | rfl
        · have hSS := hS0 rfl
          clear hS0 hS1 i9
          generalize sm 0 (D.take k) = s0 at *
          generalize sm 1 (D.take k) = s1 at *
          go_still_tail 8, (by kernel_rfl)
          change wpList _ _ _ _ _ X.drew
          have kd0 : X.drew.cell? ⟨h9, 0, none⟩ = some (.int .i64 s0) := k0
          have qd0 : X.drew.frozen? ⟨h9, 0, none⟩ = false := q0
          go_wp2
          go_roundw
          case rel => exact ⟨k + 1, by omega, by go_num, by rw [← hSS.out]; exact Own.store (show Own X.drew _ _ _ from o9) 0 _, by rw [hN.out]; exact own_setCell (World.ownsRow.drew HX.out) (by show h9 < h9 + 1; omega) _, ((BX.trans (below_drewN (Below.refl _ _) 1)).setCell (by show h9 ≤ h9; exact Nat.le_refl _) _)⟩
          case measure => simp [intOf]; omega
        · have hSS := hS1 rfl
          clear hS0 hS1 i8
          generalize sm 0 (D.take k) = s0 at *
          generalize sm 1 (D.take k) = s1 at *
          go_still_tail 8, (by kernel_rfl)
          change wpList _ _ _ _ _ X.drew
          have kd1 : X.drew.cell? ⟨h9, 1, none⟩ = some (.int .i64 s1) := k1
          have qd1 : X.drew.frozen? ⟨h9, 1, none⟩ = false := q1
          go_wp2
          go_roundw
          case rel => exact ⟨k + 1, by omega, by go_num, by rw [← hSS.out]; exact Own.store (show Own X.drew _ _ _ from o9) 1 _, by rw [hN.out]; exact own_setCell (World.ownsRow.drew HX.out) (by show h9 < h9 + 1; omega) _, ((BX.trans (below_drewN (Below.refl _ _) 1)).setCell (by show h9 ≤ h9; exact Nat.le_refl _) _)⟩
          case measure => simp [intOf]; omega
    · have hkl : k = D.length := by omega
      have hd : ¬ (k : Int) < D.length := by omega
      have hR2 : Hid (swS f D k = R) := Lib.hid (by rw [hkl]; exact hRes.out)
      clear hkl
      rw [hR2.out] at HO hle
      go_wp2
      go_ret
      exact ⟨_, rfl, (RdP.of_own HO.out (by omega)).more (Nat.le_refl _) (by omega), B4.trans ((bA.mono z4).trans (hbr.mono z4))⟩
end Go.Proofs.Ytbpjgipldddcfaa
