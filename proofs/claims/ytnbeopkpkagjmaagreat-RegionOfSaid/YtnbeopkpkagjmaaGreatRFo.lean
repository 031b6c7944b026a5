import Derived.Test.YtnbeopkpkagjmaaGreatRVt
import Derived.Test.YtnbeopkpkagjmaaGreatVS
import Derived.Test.YtnbeopkpkagjmaaGreatRCb
import Derived.Deep.RegionHeld3
import Derived.WalkKit
import Derived.WalkSpells
import Derived.WalkLawsBesides
import Derived.Deep.QuietTactic
import Derived.BigQuiet
import Derived.Handy
import Derived.Lib.Hide
/-
  Contract of follows: whether a strip can follow the one before. Conditions: lengths. (Written by mkRgFo.py.)
-/
namespace Go.Proofs.YtnbeopkpkagjmaaGreat
set_option maxRecDepth 100000
set_option linter.unusedVariables false
set_option linter.unusedSimpArgs false
open Go.RowKit

def folT (b : List Rc) (p : Int) (V : List (Int × Int)) : Bool := match b with
  | [] => true
  | q0 :: _ => decide (q0.2.2 < p) || (decide (q0.2.2 = p) && decide (V ≠ vtR b))
theorem folR_eq (b : List Rc) (ra rb p q : Int) (l : List Rc) : folR b (((ra, rb), p, q) :: l) = (vld p q && spB (-1) (vtR (((ra, rb), p, q) :: l)) && folT b p (vtR (((ra, rb), p, q) :: l))) := by cases b <;> rfl
set_option maxRecDepth 100000 in
set_option maxHeartbeats 12800000 in
theorem pFol_any (v1 : Value) (A2 : Option Addr) (cc N : Nat) (b : List Rc) (r : Rc) (l : List Rc) (w : World) (L1 L2 : Nat) (h1 : RdR w L1 w.heap.size v1 b) (h2 : RdR w L2 w.heap.size (.slice A2 N cc) (r :: l)) (lb : b.length ≤ 1000000) (ll : l.length < 1000000) :
    Calls Tryz.prog 27 #[v1, .slice A2 N cc] w fun e w' => e = .returned (.bool (folR b (r :: l))) ∧ Below w.heap.size w w' := by
  have hN : 0 < N := by have := h2.cap.1; rw [this]; simp
  have HV := Lib.hid (fun W (hb : Below w.heap.size w W) => pVt_any _ (r :: l) W L2 (h2.step hb (Nat.le_refl _)) (by simp; omega))
  have H1 := Lib.hid h1
  have HW := Lib.hid (fun W (hb : Below w.heap.size w W) => pVt_any _ b W L1 (h1.step hb (Nat.le_refl _)) (by omega))
  obtain ⟨ad, rfl, hL, hB, _, _, c2, c3⟩ := h2.at (k := 0) (r := r) rfl
  rw [Nat.zero_mul, show ad.add 0 = ad by unfold Addr.add; simp] at c2 c3
  obtain ⟨A1, c1, rfl, _, _⟩ := h1
  obtain ⟨⟨ra, rb⟩, p, q⟩ := r
  dsimp only at c2 c3
  have i1 : (0 : Int) < (N : Int) := by omega
  have bw := fun (W : World) (hb : Below w.heap.size w W) => (⟨(hb.cell (p := ⟨ad.block, ad.off + 2, none⟩) hB).trans c2, (hb.cell (p := ⟨ad.block, ad.off + 3, none⟩) hB).trans c3⟩ : W.cell? ⟨ad.block, ad.off + 2, none⟩ = some (.int .i64 p) ∧ W.cell? ⟨ad.block, ad.off + 3, none⟩ = some (.int .i64 q))
  have bD : Below w.heap.size w w.drew := Below.drew (Below.refl _ _)
  have HBW := Lib.hid bw
  clear bw c2 c3
  go_enter Tryz.func27, Tryz.ntmps27
  go_wp2_with fail
  refine wp_region_held_drew (S := fun w' => w'.cell? ⟨ad.block, ad.off + 2, none⟩ = some (.int .i64 p) ∧ w'.cell? ⟨ad.block, ad.off + 3, none⟩ = some (.int .i64 q)) (by kernel_rfl) (HBW.out _ bD) (fun hHeld => ?_)
  (refine takeD (i := 0) (d := 7) (oi := _) (v := ?_) rfl rfl (by kernel_rfl) (by kernel_rfl) (by kernel_rfl) (fun _ _ _ h => h) (Or.inl ⟨by rfl, ?_⟩) (by assumption) ?_; rotate_left; (focus ((intro w hSw; (try dsimp only at hSw); go_simp) <;> (with_reducible rfl))); (try simp only [Act.put, List.setIfInBounds_toArray, List.set_cons_zero, List.set_cons_succ]))
  (refine takeD (i := 1) (d := 8) (oi := _) (v := ?_) rfl rfl (by kernel_rfl) (by kernel_rfl) (by kernel_rfl) (fun _ _ _ h => h) (Or.inl ⟨by rfl, ?_⟩) (by assumption) ?_; rotate_left; (focus ((intro w hSw; (try dsimp only at hSw); go_simp) <;> (with_reducible rfl))); (try simp only [Act.put, List.setIfInBounds_toArray, List.set_cons_zero, List.set_cons_succ]))
  (refine takeD (i := 2) (d := 9) (oi := _) (v := ?_) rfl rfl (by kernel_rfl) (by kernel_rfl) (by kernel_rfl) (fun _ _ _ h => h) (Or.inl ⟨by rfl, ?_⟩) (by assumption) ?_; rotate_left; (focus ((intro w hSw; (try dsimp only at hSw); go_simp) <;> (with_reducible rfl))); (try simp only [Act.put, List.setIfInBounds_toArray, List.set_cons_zero, List.set_cons_succ]))
  (refine takeD (i := 3) (d := 10) (oi := _) (v := ?_) rfl rfl (by kernel_rfl) (by kernel_rfl) (by kernel_rfl) (fun _ _ _ h => h) (Or.inl ⟨by rfl, ?_⟩) (by assumption) ?_; rotate_left; (focus ((intro w hSw; (try dsimp only at hSw); go_simp) <;> (with_reducible rfl))); (try simp only [Act.put, List.setIfInBounds_toArray, List.set_cons_zero, List.set_cons_succ]))
  (refine takeD (i := 4) (d := 11) (oi := _) (v := ?_) rfl rfl (by kernel_rfl) (by kernel_rfl) (by kernel_rfl) (fun _ _ _ h => h) (Or.inl ⟨by rfl, ?_⟩) (by assumption) ?_; rotate_left; (focus ((intro w hSw; (try dsimp only at hSw); go_simp) <;> (with_reducible rfl))); (try simp only [Act.put, List.setIfInBounds_toArray, List.set_cons_zero, List.set_cons_succ]))
  refine wpAnyH_ready (rs := [5, 6]) (by kernel_rfl) (by simp) ?_
  refine AllReadyH.cons (o := _) rfl (fun K hK => ?_) (AllReadyH.cons (o := _) rfl (fun K hK => ?_) AllReadyH.nil)
  · go_simp
    go_at_call 45
    refine (HV.out _ bD).mono ?_
    rintro e w1 ⟨vs, rfl, rs0, hb1⟩
    have B1 : Below w.heap.size w w1 := bD.trans hb1
    go_wp2_with fail
    refine hK.out _ _ (HBW.out _ B1) (fun hHeld => ?_)
    clear hK
    (try simp only [Act.put, List.setIfInBounds_toArray, List.set_cons_zero, List.set_cons_succ])
    refine wpAnyH_ready (rs := [6]) (by kernel_rfl) (by simp) ?_
    refine AllReadyH.cons (o := _) rfl (fun K hK => ?_) AllReadyH.nil
    go_simp
    have z1 := B1.size
    have bA : Below w1.heap.size w1 (w1.alloc (.cells #[.int .i64 0, .int .i64 0] 33)) := (Below.refl _ _).alloc (Nat.le_refl _) _
    have bG : Below w1.heap.size w1 (w1.alloc (.cells #[.int .i64 p, .int .i64 q] 33)) := (Below.refl _ _).alloc (Nat.le_refl _) _
    have oG := Own.new w1 33 #[.int .i64 p, .int .i64 q]
    have BG := B1.trans (bG.mono z1)
    have rs := (rs0.below bG).more bG.size (Nat.le_refl _)
    clear rs0
    refine hK.out _ _ (HBW.out _ (B1.trans (bA.mono z1))) (fun hHeld => ?_)
    clear hK
    (try simp only [Act.put, List.setIfInBounds_toArray, List.set_cons_zero, List.set_cons_succ])
    refine wpAnyH_ready (rs := [7]) (by kernel_rfl) (by simp) ?_
    refine AllReadyH.cons (o := _) rfl (fun K hK => ?_) AllReadyH.nil
    go_simp
    skip
    refine hK.out _ _ (by (try dsimp only); exact HBW.out _ BG) (fun hHeld => ?_)
    clear hK
    (try simp only [Act.put, List.setIfInBounds_toArray, List.set_cons_zero, List.set_cons_succ])
    (refine takeD (i := 8) (d := 6) (oi := _) (v := ?_) rfl rfl (by kernel_rfl) (by kernel_rfl) (by kernel_rfl) (fun _ _ _ h => h) (Or.inl ⟨by rfl, ?_⟩) (by assumption) ?_; rotate_left; (focus ((intro w hSw; (try dsimp only at hSw); go_simp) <;> (with_reducible rfl))); (try simp only [Act.put, List.setIfInBounds_toArray, List.set_cons_zero, List.set_cons_succ]))
    refine wpAnyH_done (by kernel_rfl) ?_ _
    generalize w1.alloc (.cells #[.int .i64 p, .int .i64 q] 33) = Wn at *
    clear bG bA HV hb1 B1
    generalize w1.heap.size = g at *
    have hgn := oG.lt
    have d0 := oG.cell 0
    have d1 := oG.cell 1
    have zG := BG.size
    have hM1 := fun W => valid_any p q W
    have hM2 := Lib.hid (fun W (hb : Below Wn.heap.size Wn W) => sValid_any vs _ W _ (rs.step hb (Nat.le_refl _)))
    have HF := Lib.hid (folR_eq b ra rb p q l)
    have HRS := Lib.hid rs
    generalize spB (-1) (vtR (((ra, rb), p, q) :: l)) = Y at *
    generalize vld p q = X at *
    clear rs
    go_wp2_with fail
    refine (hM1 _).mono ?_
    rintro e w2 ⟨rfl, hb2⟩
    have b2 : Below Wn.heap.size Wn w2 := hb2
    clear hM1 hb2
    cases X
    · go_wp2
      go_ret
      exact ⟨by rw [HF.out]; rfl, BG.trans (b2.mono zG)⟩
    go_wp2_with fail
    refine (hM2.out _ b2).mono ?_
    rintro e w3 ⟨rfl, hb3⟩
    have b3 := b2.trans (hb3.mono b2.size)
    clear hM2 b2 hb3
    cases Y
    · go_wp2
      go_ret
      exact ⟨by rw [HF.out]; rfl, BG.trans (b3.mono zG)⟩
    have oG3 := Own.below oG b3 hgn
    have B3 := BG.trans (b3.mono zG)
    have z3 := b3.size
    have HRS3 := Lib.hid (HRS.out.step b3 (Nat.le_refl _))
    have s0 := oG3.cell 0
    have f0 : ∀ P : After w3, P.w.cell? ⟨g, 0, none⟩ = some (.int .i64 p) := after_cell (by show g < _; omega) s0
    clear oG d0 d1 b3 HRS
    cases b with
    | nil =>
      clear s0 oG3
      rw [List.length_nil]
      go_wp2_with fail
      (refine wp_region_after (by kernel_rfl) (by kernel_rfl) ?_; (repeat (go_big_quiet_step (fail))); refine wpQuiet_nil ?_; intro wq hw0; obtain ⟨⟨wq0, hbq⟩, hw1⟩ := hw0; subst hw1; (try dsimp only))
      go_wp2
      go_ret
      exact ⟨by rw [HF.out]; rfl, B3.trans (hbq.mono B3.size)⟩
    | cons q0 m =>
      obtain ⟨ad1, rfl, hL1, hB1, _, _, _, u3⟩ := H1.out.at (k := 0) (r := q0) rfl
      rw [Nat.zero_mul, show ad1.add 0 = ad1 by unfold Addr.add; simp] at u3
      obtain ⟨⟨qa, qb⟩, s, t⟩ := q0
      dsimp only at u3
      have HW3 := Lib.hid (fun W (hb : Below w3.heap.size w3 W) => HW.out W (B3.trans (hb.mono B3.size)))
      have HL := Lib.hid (show (((qa, qb), s, t) :: m).length = m.length + 1 from rfl)
      generalize (((qa, qb), s, t) :: m).length = M at *
      have hM : 0 < M := by have := HL.out; omega
      have i6 : ((M : Int) == 0) = false := by simp; omega
      have i7 : (0 : Int) < (M : Int) := by omega
      have u3' := (B3.cell (p := ⟨ad1.block, ad1.off + 3, none⟩) hB1).trans u3
      have hB1' : ad1.block < w3.heap.size := by have := B3.size; omega
      have f1 : ∀ P : After w3, P.w.cell? ⟨ad1.block, ad1.off + 3, none⟩ = some (.int .i64 t) := after_cell hB1' u3'
      have hF2 : folR (((qa, qb), s, t) :: m) (((ra, rb), p, q) :: l) = (decide (t < p) || (decide (t = p) && decide (vtR (((ra, rb), p, q) :: l) ≠ vtR (((qa, qb), s, t) :: m)))) := HF.out
      have z3B := B3.size
      clear HF H1 HW u3
      by_cases ht : t < p
      · have hd : decide (t < p) = true := decide_eq_true ht
        have HR := Lib.hid (show folR (((qa, qb), s, t) :: m) (((ra, rb), p, q) :: l) = true by rw [hF2, hd]; rfl)
        clear hF2 ht s0 u3' oG3
        go_wp2_with fail
        (refine wp_region_after (by kernel_rfl) (by kernel_rfl) ?_; (repeat (go_big_quiet_step (fail))); refine wpQuiet_nil ?_; intro wq hw0; obtain ⟨⟨wq0, hbq⟩, hw1⟩ := hw0; subst hw1; (try dsimp only))
        go_wp2
        go_ret
        exact ⟨by rw [HR.out]; rfl, B3.trans (hbq.mono B3.size)⟩
      · have hd : decide (t < p) = false := decide_eq_false ht
        rw [hd, Bool.false_or] at hF2
        by_cases hp : t = p
        · subst hp
          have hd2 : (t == t) = true := by simp
          have HR := Lib.hid (show folR (((qa, qb), s, t) :: m) (((ra, rb), t, q) :: l) = !(decide (vtR (((ra, rb), t, q) :: l) = vtR (((qa, qb), s, t) :: m))) by rw [hF2]; simp)
          clear hF2 ht
          go_wp2_with fail
          (refine wp_region_after (by kernel_rfl) (by kernel_rfl) ?_; (repeat (go_big_quiet_step (fail))); refine wpQuiet_nil ?_; intro wq hw0; obtain ⟨⟨wq0, hbq⟩, hw1⟩ := hw0; subst hw1; (try dsimp only))
          go_wp2_with fail
          have bD : Below w3.heap.size w3 wq.drew := hbq.drew
          have HV9 := Lib.hid (HW3.out _ bD)
          refine wp_region_held_drew (S := fun w' => w'.cell? ⟨ad1.block, ad1.off + 3, none⟩ = some (.int .i64 t) ∧ w'.cell? ⟨g, 0, none⟩ = some (.int .i64 t)) (by kernel_rfl) ⟨(bD.cell (p := ⟨ad1.block, ad1.off + 3, none⟩) hB1').trans u3', (bD.cell (p := ⟨g, 0, none⟩) (by show g < _; omega)).trans s0⟩ (fun hHeld => ?_)
          (refine takeD (i := 0) (d := 34) (oi := _) (v := ?_) rfl rfl (by kernel_rfl) (by kernel_rfl) (by kernel_rfl) (fun _ _ _ h => h) (Or.inl ⟨by rfl, ?_⟩) (by assumption) ?_; rotate_left; (focus ((intro w hSw; (try dsimp only at hSw); go_simp) <;> (with_reducible rfl))); (try simp only [Act.put, List.setIfInBounds_toArray, List.set_cons_zero, List.set_cons_succ]))
          (refine takeD (i := 1) (d := 35) (oi := _) (v := ?_) rfl rfl (by kernel_rfl) (by kernel_rfl) (by kernel_rfl) (fun _ _ _ h => h) (Or.inl ⟨by rfl, ?_⟩) (by assumption) ?_; rotate_left; (focus ((intro w hSw; (try dsimp only at hSw); go_simp) <;> (with_reducible rfl))); (try simp only [Act.put, List.setIfInBounds_toArray, List.set_cons_zero, List.set_cons_succ]))
          (refine takeD (i := 2) (d := 36) (oi := _) (v := ?_) rfl rfl (by kernel_rfl) (by kernel_rfl) (by kernel_rfl) (fun _ _ _ h => h) (Or.inl ⟨by rfl, ?_⟩) (by assumption) ?_; rotate_left; (focus ((intro w hSw; (try dsimp only at hSw); go_simp) <;> (with_reducible rfl))); (try simp only [Act.put, List.setIfInBounds_toArray, List.set_cons_zero, List.set_cons_succ]))
          (refine takeD (i := 3) (d := 37) (oi := _) (v := ?_) rfl rfl (by kernel_rfl) (by kernel_rfl) (by kernel_rfl) (fun _ _ _ h => h) (Or.inl ⟨by rfl, ?_⟩) (by assumption) ?_; rotate_left; (focus ((intro w hSw; (try dsimp only at hSw); go_simp) <;> (with_reducible rfl))); (try simp only [Act.put, List.setIfInBounds_toArray, List.set_cons_zero, List.set_cons_succ]))
          (refine takeD (i := 4) (d := 38) (oi := _) (v := ?_) rfl rfl (by kernel_rfl) (by kernel_rfl) (by kernel_rfl) (fun _ _ _ h => h) (Or.inl ⟨by rfl, ?_⟩) (by assumption) ?_; rotate_left; (focus ((intro w hSw; (try dsimp only at hSw); go_simp) <;> (with_reducible rfl))); (try simp only [Act.put, List.setIfInBounds_toArray, List.set_cons_zero, List.set_cons_succ]))
          (refine takeD (i := 5) (d := 39) (oi := _) (v := ?_) rfl rfl (by kernel_rfl) (by kernel_rfl) (by kernel_rfl) (fun _ _ _ h => h) (Or.inl ⟨by rfl, ?_⟩) (by assumption) ?_; rotate_left; (focus ((intro w hSw; (try dsimp only at hSw); go_simp) <;> (with_reducible rfl))); (try simp only [Act.put, List.setIfInBounds_toArray, List.set_cons_zero, List.set_cons_succ]))
          (refine takeD (i := 6) (d := 40) (oi := _) (v := ?_) rfl rfl (by kernel_rfl) (by kernel_rfl) (by kernel_rfl) (fun _ _ _ h => h) (Or.inl ⟨by rfl, ?_⟩) (by assumption) ?_; rotate_left; (focus ((intro w hSw; (try dsimp only at hSw); go_simp) <;> (with_reducible rfl))); (try simp only [Act.put, List.setIfInBounds_toArray, List.set_cons_zero, List.set_cons_succ]))
          (refine takeD (i := 7) (d := 41) (oi := _) (v := ?_) rfl rfl (by kernel_rfl) (by kernel_rfl) (by kernel_rfl) (fun _ _ _ h => h) (Or.inl ⟨by rfl, ?_⟩) (by assumption) ?_; rotate_left; (focus ((intro w hSw; (try dsimp only at hSw); go_simp) <;> (with_reducible rfl))); (try simp only [Act.put, List.setIfInBounds_toArray, List.set_cons_zero, List.set_cons_succ]))
          (refine takeD (i := 8) (d := 42) (oi := _) (v := ?_) rfl rfl (by kernel_rfl) (by kernel_rfl) (by kernel_rfl) (fun _ _ _ h => h) (Or.inl ⟨by rfl, ?_⟩) (by assumption) ?_; rotate_left; (focus ((intro w hSw; (try dsimp only at hSw); go_simp) <;> (with_reducible rfl))); (try simp only [Act.put, List.setIfInBounds_toArray, List.set_cons_zero, List.set_cons_succ]))
          (refine takeD (i := 9) (d := 43) (oi := _) (v := ?_) rfl rfl (by kernel_rfl) (by kernel_rfl) (by kernel_rfl) (fun _ _ _ h => h) (Or.inl ⟨by rfl, ?_⟩) (by assumption) ?_; rotate_left; (focus ((intro w hSw; (try dsimp only at hSw); go_simp) <;> (with_reducible rfl))); (try simp only [Act.put, List.setIfInBounds_toArray, List.set_cons_zero, List.set_cons_succ]))
          (refine takeD (i := 10) (d := 44) (oi := _) (v := ?_) rfl rfl (by kernel_rfl) (by kernel_rfl) (by kernel_rfl) (fun _ _ _ h => h) (Or.inl ⟨by rfl, ?_⟩) (by assumption) ?_; rotate_left; (focus ((intro w hSw; (try dsimp only at hSw); go_simp) <;> (with_reducible rfl))); (try simp only [Act.put, List.setIfInBounds_toArray, List.set_cons_zero, List.set_cons_succ]))
          refine wpAnyH_ready (rs := [11]) (by kernel_rfl) (by simp) ?_
          refine AllReadyH.cons (o := _) rfl (fun K hK => ?_) AllReadyH.nil
          go_simp
          go_at_call 45
          refine HV9.out.mono ?_
          rintro e w7 ⟨v7, rfl, r7, hb7⟩
          have B7 : Below w3.heap.size w3 w7 := bD.trans (hb7.mono bD.size)
          have HE := Lib.hid (pEqP_any vs v7 _ _ w7 _ _ (HRS3.out.step B7 (Nat.le_refl _)) r7)
          generalize vtR (((ra, rb), t, q) :: l) = V1 at *
          generalize vtR (((qa, qb), s, t) :: m) = V2 at *
          obtain ⟨A7, c7, rfl, _, _⟩ := r7
          go_wp2_with fail
          refine hK.out _ _ ⟨(B7.cell (p := ⟨ad1.block, ad1.off + 3, none⟩) hB1').trans u3', (B7.cell (p := ⟨g, 0, none⟩) (by show g < _; omega)).trans s0⟩ (fun hHeld => ?_)
          clear hK
          (try simp only [Act.put, List.setIfInBounds_toArray, List.set_cons_zero, List.set_cons_succ])
          refine wpAnyH_ready (rs := [12]) (by kernel_rfl) (by simp) ?_
          refine AllReadyH.cons (o := _) rfl (fun K hK => ?_) AllReadyH.nil
          go_simp
          go_at_call 48
          refine HE.out.mono ?_
          rintro e w8 ⟨rfl, hb8⟩
          have B8 : Below w3.heap.size w3 w8 := B7.trans (hb8.mono B7.size)
          go_wp2_with fail
          refine hK.out _ _ ⟨(B8.cell (p := ⟨ad1.block, ad1.off + 3, none⟩) hB1').trans u3', (B8.cell (p := ⟨g, 0, none⟩) (by show g < _; omega)).trans s0⟩ (fun hHeld => ?_)
          clear hK
          (try simp only [Act.put, List.setIfInBounds_toArray, List.set_cons_zero, List.set_cons_succ])
          (refine takeD (i := 13) (d := 47) (oi := _) (v := ?_) rfl rfl (by kernel_rfl) (by kernel_rfl) (by kernel_rfl) (fun _ _ _ h => h) (Or.inl ⟨by rfl, ?_⟩) (by assumption) ?_; rotate_left; (focus ((intro w hSw; (try dsimp only at hSw); go_simp) <;> (with_reducible rfl))); (try simp only [Act.put, List.setIfInBounds_toArray, List.set_cons_zero, List.set_cons_succ]))
          (refine takeD (i := 14) (d := 48) (oi := _) (v := ?_) rfl rfl (by kernel_rfl) (by kernel_rfl) (by kernel_rfl) (fun _ _ _ h => h) (Or.inl ⟨by rfl, ?_⟩) (by assumption) ?_; rotate_left; (focus ((intro w hSw; (try dsimp only at hSw); go_simp) <;> (with_reducible rfl))); (try simp only [Act.put, List.setIfInBounds_toArray, List.set_cons_zero, List.set_cons_succ]))
          (refine takeD (i := 15) (d := 4) (oi := _) (v := ?_) rfl rfl (by kernel_rfl) (by kernel_rfl) (by kernel_rfl) (fun _ _ _ h => h) (Or.inl ⟨by rfl, ?_⟩) (by assumption) ?_; rotate_left; (focus ((intro w hSw; (try dsimp only at hSw); go_simp) <;> (with_reducible rfl))); (try simp only [Act.put, List.setIfInBounds_toArray, List.set_cons_zero, List.set_cons_succ]))
          refine wpAnyH_done (by kernel_rfl) ?_ _
          go_wp2
          go_ret
          exact ⟨by rw [HR.out]; rfl, B3.trans (B8.mono z3B)⟩
        · have hd2 : (t == p) = false := by simp [hp]
          have HR := Lib.hid (show folR (((qa, qb), s, t) :: m) (((ra, rb), p, q) :: l) = false by rw [hF2, decide_eq_false hp]; rfl)
          clear hF2 ht hp
          go_wp2_with fail
          (refine wp_region_after (by kernel_rfl) (by kernel_rfl) ?_; (repeat (go_big_quiet_step (fail))); refine wpQuiet_nil ?_; intro wq hw0; obtain ⟨⟨wq0, hbq⟩, hw1⟩ := hw0; subst hw1; (try dsimp only))
          have y0 : ∀ P : After wq, P.w.cell? ⟨g, 0, none⟩ = some (.int .i64 p) := after_cell (by have := hbq.size; show g < _; omega) ((hbq.cell (p := ⟨g, 0, none⟩) (by show g < _; omega)).trans s0)
          have y1 : ∀ P : After wq, P.w.cell? ⟨ad1.block, ad1.off + 3, none⟩ = some (.int .i64 t) := after_cell (by have := hbq.size; show ad1.block < _; omega) ((hbq.cell (p := ⟨ad1.block, ad1.off + 3, none⟩) hB1').trans u3')
          clear f0 f1 s0 u3' oG3
          have hbq1 := hbq
          go_wp2_with fail
          (refine wp_region_after (by kernel_rfl) (by kernel_rfl) ?_; (repeat (go_big_quiet_step (fail))); refine wpQuiet_nil ?_; intro wr hw0; obtain ⟨⟨wr0, hbr⟩, hw1⟩ := hw0; subst hw1; (try dsimp only))
          go_wp2
          go_ret
          exact ⟨by rw [HR.out]; rfl, B3.trans ((hbq1.trans (hbr.mono hbq1.size)).mono z3B)⟩
  · go_simp
    have bA : Below w.heap.size w (w.alloc (.cells #[.int .i64 0, .int .i64 0] 33)).drew := ((Below.refl _ _).alloc (Nat.le_refl _) _).drew
    have oA : Own (w.alloc (.cells #[.int .i64 0, .int .i64 0] 33)).drew w.heap.size 33 #[.int .i64 0, .int .i64 0] := Own.new w 33 #[.int .i64 0, .int .i64 0]
    have hgA : w.heap.size < (w.alloc (.cells #[.int .i64 0, .int .i64 0] 33)).drew.heap.size := oA.lt
    refine hK.out _ _ (HBW.out _ bA) (fun hHeld => ?_)
    clear hK
    (try simp only [Act.put, List.setIfInBounds_toArray, List.set_cons_zero, List.set_cons_succ])
    refine wpAnyH_ready (rs := [5]) (by kernel_rfl) (by simp) ?_
    refine AllReadyH.cons (o := _) rfl (fun K hK => ?_) AllReadyH.nil
    go_simp
    go_at_call 45
    refine (HV.out _ bA).mono ?_
    rintro e w1 ⟨vs, rfl, rs0, hb1⟩
    have oA1 := Own.below oA hb1 hgA
    have B1 : Below w.heap.size w w1 := bA.trans (hb1.mono bA.size)
    have d0 := oA1.cell 0
    have d1 := oA1.cell 1
    have e0 := oA1.free 0
    have e1 := oA1.free 1
    have oG := (oA1.store 0 (.int .i64 p)).store 1 (.int .i64 q)
    have BG := (B1.setCell (p := ⟨w.heap.size, 0, none⟩) (Nat.le_refl _) (.int .i64 p)).setCell (p := ⟨w.heap.size, 1, none⟩) (Nat.le_refl _) (.int .i64 q)
    have rs := ((rs0.setFar (p := ⟨w.heap.size, 0, none⟩) hgA (.int .i64 p)).setFar (p := ⟨w.heap.size, 1, none⟩) hgA (.int .i64 q)).more (show w1.heap.size ≤ ((w1.setCell ⟨w.heap.size, 0, none⟩ (.int .i64 p)).setCell ⟨w.heap.size, 1, none⟩ (.int .i64 q)).heap.size by simp) (Nat.le_refl _)
    go_wp2_with fail
    refine hK.out _ _ (HBW.out _ B1) (fun hHeld => ?_)
    clear hK
    (try simp only [Act.put, List.setIfInBounds_toArray, List.set_cons_zero, List.set_cons_succ])
    refine wpAnyH_ready (rs := [7]) (by kernel_rfl) (by simp) ?_
    refine AllReadyH.cons (o := _) rfl (fun K hK => ?_) AllReadyH.nil
    go_simp
    skip
    refine hK.out _ _ (by (try dsimp only); exact HBW.out _ BG) (fun hHeld => ?_)
    clear hK
    (try simp only [Act.put, List.setIfInBounds_toArray, List.set_cons_zero, List.set_cons_succ])
    (refine takeD (i := 8) (d := 6) (oi := _) (v := ?_) rfl rfl (by kernel_rfl) (by kernel_rfl) (by kernel_rfl) (fun _ _ _ h => h) (Or.inl ⟨by rfl, ?_⟩) (by assumption) ?_; rotate_left; (focus ((intro w hSw; (try dsimp only at hSw); go_simp) <;> (with_reducible rfl))); (try simp only [Act.put, List.setIfInBounds_toArray, List.set_cons_zero, List.set_cons_succ]))
    refine wpAnyH_done (by kernel_rfl) ?_ _
    generalize (w1.setCell ⟨w.heap.size, 0, none⟩ (.int .i64 p)).setCell ⟨w.heap.size, 1, none⟩ (.int .i64 q) = Wn at *
    clear bA oA oA1 d0 d1 e0 e1 HV hb1 B1 hgA rs0
    obtain ⟨g, hg⟩ : ∃ g, g = w.heap.size := ⟨_, rfl⟩
    rw [← hg] at oG ⊢
    clear hg
    have hgn := oG.lt
    have d0 := oG.cell 0
    have d1 := oG.cell 1
    have zG := BG.size
    have hM1 := fun W => valid_any p q W
    have hM2 := Lib.hid (fun W (hb : Below Wn.heap.size Wn W) => sValid_any vs _ W _ (rs.step hb (Nat.le_refl _)))
    have HF := Lib.hid (folR_eq b ra rb p q l)
    have HRS := Lib.hid rs
    generalize spB (-1) (vtR (((ra, rb), p, q) :: l)) = Y at *
    generalize vld p q = X at *
    clear rs
    go_wp2_with fail
    refine (hM1 _).mono ?_
    rintro e w2 ⟨rfl, hb2⟩
    have b2 : Below Wn.heap.size Wn w2 := hb2
    clear hM1 hb2
    cases X
    · go_wp2
      go_ret
      exact ⟨by rw [HF.out]; rfl, BG.trans (b2.mono zG)⟩
    go_wp2_with fail
    refine (hM2.out _ b2).mono ?_
    rintro e w3 ⟨rfl, hb3⟩
    have b3 := b2.trans (hb3.mono b2.size)
    clear hM2 b2 hb3
    cases Y
    · go_wp2
      go_ret
      exact ⟨by rw [HF.out]; rfl, BG.trans (b3.mono zG)⟩
    have oG3 := Own.below oG b3 hgn
    have B3 := BG.trans (b3.mono zG)
    have z3 := b3.size
    have HRS3 := Lib.hid (HRS.out.step b3 (Nat.le_refl _))
    have s0 := oG3.cell 0
    have f0 : ∀ P : After w3, P.w.cell? ⟨g, 0, none⟩ = some (.int .i64 p) := after_cell (by show g < _; omega) s0
    clear oG d0 d1 b3 HRS
    cases b with
    | nil =>
      clear s0 oG3
      rw [List.length_nil]
      go_wp2_with fail
      (refine wp_region_after (by kernel_rfl) (by kernel_rfl) ?_; (repeat (go_big_quiet_step (fail))); refine wpQuiet_nil ?_; intro wq hw0; obtain ⟨⟨wq0, hbq⟩, hw1⟩ := hw0; subst hw1; (try dsimp only))
      go_wp2
      go_ret
      exact ⟨by rw [HF.out]; rfl, B3.trans (hbq.mono B3.size)⟩
    | cons q0 m =>
      obtain ⟨ad1, rfl, hL1, hB1, _, _, _, u3⟩ := H1.out.at (k := 0) (r := q0) rfl
      rw [Nat.zero_mul, show ad1.add 0 = ad1 by unfold Addr.add; simp] at u3
      obtain ⟨⟨qa, qb⟩, s, t⟩ := q0
      dsimp only at u3
      have HW3 := Lib.hid (fun W (hb : Below w3.heap.size w3 W) => HW.out W (B3.trans (hb.mono B3.size)))
      have HL := Lib.hid (show (((qa, qb), s, t) :: m).length = m.length + 1 from rfl)
      generalize (((qa, qb), s, t) :: m).length = M at *
      have hM : 0 < M := by have := HL.out; omega
      have i6 : ((M : Int) == 0) = false := by simp; omega
      have i7 : (0 : Int) < (M : Int) := by omega
      have u3' := (B3.cell (p := ⟨ad1.block, ad1.off + 3, none⟩) hB1).trans u3
      have hB1' : ad1.block < w3.heap.size := by have := B3.size; omega
      have f1 : ∀ P : After w3, P.w.cell? ⟨ad1.block, ad1.off + 3, none⟩ = some (.int .i64 t) := after_cell hB1' u3'
      have hF2 : folR (((qa, qb), s, t) :: m) (((ra, rb), p, q) :: l) = (decide (t < p) || (decide (t = p) && decide (vtR (((ra, rb), p, q) :: l) ≠ vtR (((qa, qb), s, t) :: m)))) := HF.out
      have z3B := B3.size
      clear HF H1 HW u3
      by_cases ht : t < p
      · have hd : decide (t < p) = true := decide_eq_true ht
        have HR := Lib.hid (show folR (((qa, qb), s, t) :: m) (((ra, rb), p, q) :: l) = true by rw [hF2, hd]; rfl)
        clear hF2 ht s0 u3' oG3
        go_wp2_with fail
        (refine wp_region_after (by kernel_rfl) (by kernel_rfl) ?_; (repeat (go_big_quiet_step (fail))); refine wpQuiet_nil ?_; intro wq hw0; obtain ⟨⟨wq0, hbq⟩, hw1⟩ := hw0; subst hw1; (try dsimp only))
        go_wp2
        go_ret
        exact ⟨by rw [HR.out]; rfl, B3.trans (hbq.mono B3.size)⟩
      · have hd : decide (t < p) = false := decide_eq_false ht
        rw [hd, Bool.false_or] at hF2
        by_cases hp : t = p
        · subst hp
          have hd2 : (t == t) = true := by simp
          have HR := Lib.hid (show folR (((qa, qb), s, t) :: m) (((ra, rb), t, q) :: l) = !(decide (vtR (((ra, rb), t, q) :: l) = vtR (((qa, qb), s, t) :: m))) by rw [hF2]; simp)
          clear hF2 ht
          go_wp2_with fail
          (refine wp_region_after (by kernel_rfl) (by kernel_rfl) ?_; (repeat (go_big_quiet_step (fail))); refine wpQuiet_nil ?_; intro wq hw0; obtain ⟨⟨wq0, hbq⟩, hw1⟩ := hw0; subst hw1; (try dsimp only))
          go_wp2_with fail
          have bD : Below w3.heap.size w3 wq.drew := hbq.drew
          have HV9 := Lib.hid (HW3.out _ bD)
          refine wp_region_held_drew (S := fun w' => w'.cell? ⟨ad1.block, ad1.off + 3, none⟩ = some (.int .i64 t) ∧ w'.cell? ⟨g, 0, none⟩ = some (.int .i64 t)) (by kernel_rfl) ⟨(bD.cell (p := ⟨ad1.block, ad1.off + 3, none⟩) hB1').trans u3', (bD.cell (p := ⟨g, 0, none⟩) (by show g < _; omega)).trans s0⟩ (fun hHeld => ?_)
          (refine takeD (i := 0) (d := 34) (oi := _) (v := ?_) rfl rfl (by kernel_rfl) (by kernel_rfl) (by kernel_rfl) (fun _ _ _ h => h) (Or.inl ⟨by rfl, ?_⟩) (by assumption) ?_; rotate_left; (focus ((intro w hSw; (try dsimp only at hSw); go_simp) <;> (with_reducible rfl))); (try simp only [Act.put, List.setIfInBounds_toArray, List.set_cons_zero, List.set_cons_succ]))
          (refine takeD (i := 1) (d := 35) (oi := _) (v := ?_) rfl rfl (by kernel_rfl) (by kernel_rfl) (by kernel_rfl) (fun _ _ _ h => h) (Or.inl ⟨by rfl, ?_⟩) (by assumption) ?_; rotate_left; (focus ((intro w hSw; (try dsimp only at hSw); go_simp) <;> (with_reducible rfl))); (try simp only [Act.put, List.setIfInBounds_toArray, List.set_cons_zero, List.set_cons_succ]))
          (refine takeD (i := 2) (d := 36) (oi := _) (v := ?_) rfl rfl (by kernel_rfl) (by kernel_rfl) (by kernel_rfl) (fun _ _ _ h => h) (Or.inl ⟨by rfl, ?_⟩) (by assumption) ?_; rotate_left; (focus ((intro w hSw; (try dsimp only at hSw); go_simp) <;> (with_reducible rfl))); (try simp only [Act.put, List.setIfInBounds_toArray, List.set_cons_zero, List.set_cons_succ]))
          (refine takeD (i := 3) (d := 37) (oi := _) (v := ?_) rfl rfl (by kernel_rfl) (by kernel_rfl) (by kernel_rfl) (fun _ _ _ h => h) (Or.inl ⟨by rfl, ?_⟩) (by assumption) ?_; rotate_left; (focus ((intro w hSw; (try dsimp only at hSw); go_simp) <;> (with_reducible rfl))); (try simp only [Act.put, List.setIfInBounds_toArray, List.set_cons_zero, List.set_cons_succ]))
          (refine takeD (i := 4) (d := 38) (oi := _) (v := ?_) rfl rfl (by kernel_rfl) (by kernel_rfl) (by kernel_rfl) (fun _ _ _ h => h) (Or.inl ⟨by rfl, ?_⟩) (by assumption) ?_; rotate_left; (focus ((intro w hSw; (try dsimp only at hSw); go_simp) <;> (with_reducible rfl))); (try simp only [Act.put, List.setIfInBounds_toArray, List.set_cons_zero, List.set_cons_succ]))
          (refine takeD (i := 5) (d := 39) (oi := _) (v := ?_) rfl rfl (by kernel_rfl) (by kernel_rfl) (by kernel_rfl) (fun _ _ _ h => h) (Or.inl ⟨by rfl, ?_⟩) (by assumption) ?_; rotate_left; (focus ((intro w hSw; (try dsimp only at hSw); go_simp) <;> (with_reducible rfl))); (try simp only [Act.put, List.setIfInBounds_toArray, List.set_cons_zero, List.set_cons_succ]))
          (refine takeD (i := 6) (d := 40) (oi := _) (v := ?_) rfl rfl (by kernel_rfl) (by kernel_rfl) (by kernel_rfl) (fun _ _ _ h => h) (Or.inl ⟨by rfl, ?_⟩) (by assumption) ?_; rotate_left; (focus ((intro w hSw; (try dsimp only at hSw); go_simp) <;> (with_reducible rfl))); (try simp only [Act.put, List.setIfInBounds_toArray, List.set_cons_zero, List.set_cons_succ]))
          (refine takeD (i := 7) (d := 41) (oi := _) (v := ?_) rfl rfl (by kernel_rfl) (by kernel_rfl) (by kernel_rfl) (fun _ _ _ h => h) (Or.inl ⟨by rfl, ?_⟩) (by assumption) ?_; rotate_left; (focus ((intro w hSw; (try dsimp only at hSw); go_simp) <;> (with_reducible rfl))); (try simp only [Act.put, List.setIfInBounds_toArray, List.set_cons_zero, List.set_cons_succ]))
          (refine takeD (i := 8) (d := 42) (oi := _) (v := ?_) rfl rfl (by kernel_rfl) (by kernel_rfl) (by kernel_rfl) (fun _ _ _ h => h) (Or.inl ⟨by rfl, ?_⟩) (by assumption) ?_; rotate_left; (focus ((intro w hSw; (try dsimp only at hSw); go_simp) <;> (with_reducible rfl))); (try simp only [Act.put, List.setIfInBounds_toArray, List.set_cons_zero, List.set_cons_succ]))
          (refine takeD (i := 9) (d := 43) (oi := _) (v := ?_) rfl rfl (by kernel_rfl) (by kernel_rfl) (by kernel_rfl) (fun _ _ _ h => h) (Or.inl ⟨by rfl, ?_⟩) (by assumption) ?_; rotate_left; (focus ((intro w hSw; (try dsimp only at hSw); go_simp) <;> (with_reducible rfl))); (try simp only [Act.put, List.setIfInBounds_toArray, List.set_cons_zero, List.set_cons_succ]))
          (refine takeD (i := 10) (d := 44) (oi := _) (v := ?_) rfl rfl (by kernel_rfl) (by kernel_rfl) (by kernel_rfl) (fun _ _ _ h => h) (Or.inl ⟨by rfl, ?_⟩) (by assumption) ?_; rotate_left; (focus ((intro w hSw; (try dsimp only at hSw); go_simp) <;> (with_reducible rfl))); (try simp only [Act.put, List.setIfInBounds_toArray, List.set_cons_zero, List.set_cons_succ]))
          refine wpAnyH_ready (rs := [11]) (by kernel_rfl) (by simp) ?_
          refine AllReadyH.cons (o := _) rfl (fun K hK => ?_) AllReadyH.nil
          go_simp
          go_at_call 45
          refine HV9.out.mono ?_
          rintro e w7 ⟨v7, rfl, r7, hb7⟩
          have B7 : Below w3.heap.size w3 w7 := bD.trans (hb7.mono bD.size)
          have HE := Lib.hid (pEqP_any vs v7 _ _ w7 _ _ (HRS3.out.step B7 (Nat.le_refl _)) r7)
          generalize vtR (((ra, rb), t, q) :: l) = V1 at *
          generalize vtR (((qa, qb), s, t) :: m) = V2 at *
          obtain ⟨A7, c7, rfl, _, _⟩ := r7
          go_wp2_with fail
          refine hK.out _ _ ⟨(B7.cell (p := ⟨ad1.block, ad1.off + 3, none⟩) hB1').trans u3', (B7.cell (p := ⟨g, 0, none⟩) (by show g < _; omega)).trans s0⟩ (fun hHeld => ?_)
          clear hK
          (try simp only [Act.put, List.setIfInBounds_toArray, List.set_cons_zero, List.set_cons_succ])
          refine wpAnyH_ready (rs := [12]) (by kernel_rfl) (by simp) ?_
          refine AllReadyH.cons (o := _) rfl (fun K hK => ?_) AllReadyH.nil
          go_simp
          go_at_call 48
          refine HE.out.mono ?_
          rintro e w8 ⟨rfl, hb8⟩
          have B8 : Below w3.heap.size w3 w8 := B7.trans (hb8.mono B7.size)
          go_wp2_with fail
          refine hK.out _ _ ⟨(B8.cell (p := ⟨ad1.block, ad1.off + 3, none⟩) hB1').trans u3', (B8.cell (p := ⟨g, 0, none⟩) (by show g < _; omega)).trans s0⟩ (fun hHeld => ?_)
          clear hK
          (try simp only [Act.put, List.setIfInBounds_toArray, List.set_cons_zero, List.set_cons_succ])
          (refine takeD (i := 13) (d := 47) (oi := _) (v := ?_) rfl rfl (by kernel_rfl) (by kernel_rfl) (by kernel_rfl) (fun _ _ _ h => h) (Or.inl ⟨by rfl, ?_⟩) (by assumption) ?_; rotate_left; (focus ((intro w hSw; (try dsimp only at hSw); go_simp) <;> (with_reducible rfl))); (try simp only [Act.put, List.setIfInBounds_toArray, List.set_cons_zero, List.set_cons_succ]))
          (refine takeD (i := 14) (d := 48) (oi := _) (v := ?_) rfl rfl (by kernel_rfl) (by kernel_rfl) (by kernel_rfl) (fun _ _ _ h => h) (Or.inl ⟨by rfl, ?_⟩) (by assumption) ?_; rotate_left; (focus ((intro w hSw; (try dsimp only at hSw); go_simp) <;> (with_reducible rfl))); (try simp only [Act.put, List.setIfInBounds_toArray, List.set_cons_zero, List.set_cons_succ]))
          (refine takeD (i := 15) (d := 4) (oi := _) (v := ?_) rfl rfl (by kernel_rfl) (by kernel_rfl) (by kernel_rfl) (fun _ _ _ h => h) (Or.inl ⟨by rfl, ?_⟩) (by assumption) ?_; rotate_left; (focus ((intro w hSw; (try dsimp only at hSw); go_simp) <;> (with_reducible rfl))); (try simp only [Act.put, List.setIfInBounds_toArray, List.set_cons_zero, List.set_cons_succ]))
          refine wpAnyH_done (by kernel_rfl) ?_ _
          go_wp2
          go_ret
          exact ⟨by rw [HR.out]; rfl, B3.trans (B8.mono z3B)⟩
        · have hd2 : (t == p) = false := by simp [hp]
          have HR := Lib.hid (show folR (((qa, qb), s, t) :: m) (((ra, rb), p, q) :: l) = false by rw [hF2, decide_eq_false hp]; rfl)
          clear hF2 ht hp
          go_wp2_with fail
          (refine wp_region_after (by kernel_rfl) (by kernel_rfl) ?_; (repeat (go_big_quiet_step (fail))); refine wpQuiet_nil ?_; intro wq hw0; obtain ⟨⟨wq0, hbq⟩, hw1⟩ := hw0; subst hw1; (try dsimp only))
          have y0 : ∀ P : After wq, P.w.cell? ⟨g, 0, none⟩ = some (.int .i64 p) := after_cell (by have := hbq.size; show g < _; omega) ((hbq.cell (p := ⟨g, 0, none⟩) (by show g < _; omega)).trans s0)
          have y1 : ∀ P : After wq, P.w.cell? ⟨ad1.block, ad1.off + 3, none⟩ = some (.int .i64 t) := after_cell (by have := hbq.size; show ad1.block < _; omega) ((hbq.cell (p := ⟨ad1.block, ad1.off + 3, none⟩) hB1').trans u3')
          clear f0 f1 s0 u3' oG3
          have hbq1 := hbq
          go_wp2_with fail
          (refine wp_region_after (by kernel_rfl) (by kernel_rfl) ?_; (repeat (go_big_quiet_step (fail))); refine wpQuiet_nil ?_; intro wr hw0; obtain ⟨⟨wr0, hbr⟩, hw1⟩ := hw0; subst hw1; (try dsimp only))
          go_wp2
          go_ret
          exact ⟨by rw [HR.out]; rfl, B3.trans ((hbq1.trans (hbr.mono hbq1.size)).mono z3B)⟩
end Go.Proofs.YtnbeopkpkagjmaaGreat
/-
  Contract of Valid of the program: whether a list is a region. Conditions: lengths.
-/
namespace Go.Proofs.YtnbeopkpkagjmaaGreat
set_option maxRecDepth 100000
set_option linter.unusedVariables false
set_option linter.unusedSimpArgs false
open Go.RowKit

theorem RdR.front {w : World} {L B : Nat} {A : Option Addr} {m c : Nat} {l x y : List Rc} (h : RdR w L B (.slice A m c) l) (e : l = x ++ y) : RdR w L B (.slice A x.length c) x := by
  subst e
  obtain ⟨A', c', hv, hl, hc, hk⟩ := h
  injection hv with e1 e2 e3
  subst e1 e3
  rw [List.length_append] at hl hc
  exact ⟨A, c, rfl, by omega, by omega, fun k r hr => hk k r (by rw [List.getElem?_append_left (List.getElem?_eq_some_iff.1 hr).1]; exact hr)⟩
theorem add_add4 (ad : Addr) (i j : Nat) : (ad.add (i * 4)).add (j * 4) = ad.add ((i + j) * 4) := by
  unfold Addr.add
  by_cases h1 : i * 4 = 0 <;> by_cases h2 : j * 4 = 0
  · rw [if_pos h1, if_pos h2, if_pos (by omega)]
  · rw [if_pos h1, if_neg h2, if_neg (by omega)]; congr 1; omega
  · rw [if_neg h1, if_pos h2, if_neg (by omega)]; congr 1; omega
  · rw [if_neg h1, if_neg h2, if_neg (by omega)]; simp only; congr 1; omega
theorem RdR.back {w : World} {L B : Nat} {ad : Addr} {m c : Nat} {l x y : List Rc} (h : RdR w L B (.slice (some ad) m c) l) (e : l = x ++ y) : RdR w L B (.slice (if c = x.length then some ad else some (ad.add (x.length * 4))) (m - x.length) (c - x.length)) y := by
  have hm := h.cap.1
  subst e
  obtain ⟨A', c', hv, hl, hc, hk⟩ := h
  injection hv with e1 e2 e3
  subst e1 e3
  rw [List.length_append] at hl hc hm
  rw [show m - x.length = y.length by omega]
  by_cases hcx : c = x.length
  · have hy : y = [] := List.eq_nil_of_length_eq_zero (by omega)
    subst hy
    exact RdR.nil _ _ _ _ _
  · rw [if_neg hcx]
    refine ⟨_, _, rfl, by omega, by omega, fun k r hr => ?_⟩
    obtain ⟨_, e1, h1, h2, h3⟩ := hk (x.length + k) r (by rw [List.getElem?_append_right (by omega), show x.length + k - x.length = k by omega]; exact hr)
    injection e1 with e1
    subst e1
    exact ⟨_, rfl, by rw [add_block]; exact h1, by rw [add_block]; exact h2, by rw [add_add4]; exact h3⟩
theorem rn_split (r : Rc) (t : List Rc) : r :: t = rnR r t ++ t.dropWhile fun q => decide (q.2 = r.2) := by
  unfold rnR
  rw [List.cons_append, List.takeWhile_append_dropWhile]
theorem rn_len (r : Rc) (t : List Rc) : (rnR r t).length + (t.dropWhile fun q => decide (q.2 = r.2)).length = t.length + 1 := by
  rw [← List.length_append, ← rn_split]; rfl
theorem rgS_nil (z : Int) (pr : List (Int × Int)) : rgS z pr (runs []) = true := rfl
def slLen : Value → Nat | .slice _ n _ => n | _ => 0
set_option maxRecDepth 100000 in
set_option maxHeartbeats 6400000 in
theorem pValid_any (v : Value) (l : List Rc) (w : World) (L : Nat) (hv : RdR w L w.heap.size v l) (hl : l.length ≤ 900000) :
    Calls Tryz.prog 7 #[v] w fun e w' => e = .returned (.bool (rgV l)) ∧ Below w.heap.size w w' := by
  have HV0 := Lib.hid hv
  obtain ⟨A, c, rfl, _, _⟩ := hv
  go_enter Tryz.func7, Tryz.ntmps7
  go_wp2
  go_loopw [0, 3] (fun o f wr => ∃ (t b : List Rc) (z : Int) (pr : List (Int × Int)), Hid (RdR wr L w.heap.size o t) ∧ Hid (RdR wr L w.heap.size f b) ∧ Hid (Bef b z pr) ∧ Hid (rgV l = rgS z pr (runs t)) ∧ t.length ≤ 900000 ∧ b.length ≤ 900000 ∧ Below w.heap.size w wr) (fun o _ _ => slLen o)
  case atStart => exact ⟨l, [], -1, [], HV0, Lib.hid (RdR.nil _ _ _ _ _), Lib.hid (.inl ⟨rfl, rfl⟩), Lib.hid rfl, hl, by simp, Below.refl _ _⟩
  case round =>
    obtain ⟨t, b, z, pr, HO, HB, HBe, HT, ht, hb, hbr⟩ := hrel
    clear HV0
    have hbz := hbr.size
    obtain ⟨A1, c1, rfl, _, hc1, _⟩ := HO.out
    obtain ⟨A2, c2, rfl, _, _⟩ := HB.out
    cases t with
    | nil =>
      have HX := Lib.hid (HT.out.trans (rgS_nil z pr))
      rw [List.length_nil]
      go_wp2
      go_ret
      exact ⟨by rw [HX.out]; rfl, hbr⟩
    | cons r t =>
      obtain ⟨ad, rfl, _⟩ := HO.out.at (k := 0) (r := r) rfl
      have HS := Lib.hid (HT.out.trans (fol_rg HBe.out r t))
      have HBn := Lib.hid (bef_next r t)
      have hln := rn_len r t
      have HF := Lib.hid (HO.out.front (rn_split r t))
      have HK := Lib.hid (HO.out.back (rn_split r t))
      have HTg := Lib.hid (pTg_any (some ad) c1 r t wr L (HO.out.more hbz (Nat.le_refl _)))
      have hpos : 0 < (rnR r t).length := by unfold rnR; simp
      have hm1 : (r :: t).length = t.length + 1 := rfl
      rw [hm1] at HK ht hc1 ⊢
      clear hm1
      have htw : (t.takeWhile fun q => decide (q.2 = r.2)).length ≤ t.length := (List.takeWhile_sublist _).length_le
      have HFo := Lib.hid (fun (W : World) (hW : Below wr.heap.size wr W) => pFol_any (.slice A2 b.length c2) (some ad) c1 _ b r _ W L L (HB.out.step hW hbz) (HF.out.step hW hbz) (by omega) (by omega))
      have HBn2 : Hid (Bef (rnR r t) r.2.2 (r.1 :: (t.takeWhile fun q => decide (q.2 = r.2)).map (·.1))) := HBn
      clear HBn htw
      change Hid (rgV l = (folR b (rnR r t) && _)) at HS
      change Hid (∀ (W : World), Below wr.heap.size wr W → Calls _ _ _ W fun e w' => e = .returned (.bool (folR b (rnR r t))) ∧ _) at HFo
      generalize (r.1 :: (t.takeWhile fun q => decide (q.2 = r.2)).map (·.1)) = pr2 at *
      generalize (t.dropWhile fun q => decide (q.2 = r.2)) = T2 at *
      generalize rnR r t = R at *
      generalize hN : R.length = N at *
      generalize t.length + 1 = M at *
      clear HO HT HBe HB
      have i1 : (M : Int) > 0 := by omega
      have i2 : (0 : Int) ≤ (N : Int) := by omega
      have i3 : (N : Int) ≤ (M : Int) := by omega
      have i4 : (M : Int) ≤ (c1 : Int) := by omega
      have i5 : N ≤ M := by omega
      have i6 : M ≤ c1 := by omega
      go_wp2_with fail
      with_reducible refine HTg.out.mono ?_
      rintro e w1 ⟨rfl, hb1⟩
      clear HTg
      go_wp2_with fail
      with_reducible refine (HFo.out _ hb1).mono ?_
      rintro e w2 ⟨rfl, hb2⟩
      clear HFo
      have b2 := hb1.trans (hb2.mono hb1.size)
      have B2 := hbr.trans (b2.mono hbz)
      generalize folR b R = F at *
      cases F
      · have HX := Lib.hid (HS.out.trans (Bool.false_and _))
        clear HS
        go_wp2
        go_ret
        exact ⟨by rw [HX.out]; rfl, B2⟩
      · have HX := Lib.hid (HS.out.trans (Bool.true_and _))
        clear HS hb1 hb2
        have z2 := b2.size
        go_wp2_with fail
        (refine wp_region_after (by kernel_rfl) (by kernel_rfl) ?_; (repeat (go_big_quiet_step (fail))); refine wpQuiet_nil ?_; intro wq hw0; obtain ⟨⟨wq0, hbq⟩, hw1⟩ := hw0; subst hw1; (try dsimp only))
        have b3 : Below w.heap.size wr wq := (b2.trans (hbq.mono z2)).mono hbz
        have HK3 := Lib.hid (HK.out.below b3)
        have HF3 := Lib.hid (HF.out.below b3)
        have B3 := hbr.trans b3
        clear HK HF
        go_wp2
        go_roundw
        case rel => exact ⟨T2, R, r.2.2, pr2, HK3, HF3, HBn2, HX, by omega, by omega, B3⟩
        case measure => simp only [slLen]; omega
end Go.Proofs.YtnbeopkpkagjmaaGreat
