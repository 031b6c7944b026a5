import Derived.Test.YtnbeopkpkagjmaaGreatRSs
import Derived.Deep.RegionHeld3
import Derived.StillTailTactics
import Derived.IntWalk
import Derived.Shelf.Abstract
import Derived.WalkKit
import Derived.WalkSpells
import Derived.WalkLawsBesides
import Derived.Deep.QuietTactic
import Derived.BigQuiet
import Derived.Handy
import Derived.Lib.Hide
/-
  Contract of strips, over any visitor. Conditions: at most 6000 rectangles in both lists. (Written by mkRgSt.py.)
-/
namespace Go.Proofs.YtnbeopkpkagjmaaGreat
set_option maxRecDepth 100000
set_option linter.unusedVariables false
set_option linter.unusedSimpArgs false
open Go.RowKit

theorem takeD {P : Program} {md : Region.Mode} {ops : Array Oper} {Q : Exit → Act → World → Prop} {S : World → Prop} {i d : Nat} {oi : Oper} {v : Value} {fuel : Nat} {listed : Array Bool} {a : Act} {w : World} (hi : ops[i]? = some oi) (hd : oi.dst = some d)
    (hs : Region.noSelect ops = true) (hf : Region.free md ops listed i = true) (hr : (Region.ready md ops listed).contains i = true)
    (hQ : ∀ c a w, Q (.panic c) (a.put oi.dst v) w → Q (.panic c) a w) (hy : YieldsIf P ops S oi v a) (hS : S w)
    (h : wpAnyH P md ops Q S fuel (listed.setIfInBounds i true) (a.put (some d) v) w) : wpAnyH P md ops Q S (fuel + 1) listed a w :=
  wpAnyH_take hi hs hf hr hQ hy hS (by rw [hd]; exact h)
theorem own_slice {w : World} {base : Nat} {e : TypeId} {sz n : Nat} {v : Value} {xs : List Value} (h : w.ownsRow base e sz v n xs) : ∃ A n' c, v = .slice A n' c := by
  rcases own_get h with ⟨rfl, _⟩ | ⟨g, c, rfl, _⟩
  · exact ⟨_, _, _, rfl⟩
  · exact ⟨_, _, _, rfl⟩
theorem Swp.srtO {a b : List Rc} {D : List Bo} (h : Swp a b D) (j : Int) {k : Nat} (hk : k ≤ D.length) : SrtP (opn j (D.take k)) := (opn_inv h j k hk).1
theorem Swp.mem {a b : List Rc} {D : List Bo} (h : Swp a b D) {k : Nat} {x j : Int} {bg : Bool} {p : Int × Int} (hk : D[k]? = some (x, j, bg, p)) (hb : bg = false) : p ∈ opn j (D.take k) := by
  subst hb
  obtain ⟨hlt, e⟩ := List.getElem?_eq_some_iff.1 hk
  exact opn_has h j hlt p (by rw [e]; simp [isB]) ((opn_inv h j k (by omega)).2 p)
theorem Swp.slc {a b : List Rc} {D : List Bo} (h : Swp a b D) {j : Int} (hj : j = 0 ∨ j = 1) {m : Nat} {y x : Int} {d1 d2 : Int × Bool × Int × Int} (h1 : D[m]? = some (y, d1)) (h2 : D[m + 1]? = some (x, d2)) (hlt : y < x) : mjn (opn j (D.take (m + 1))) = slcR (pick j a b) y := by
  obtain ⟨g1, e1⟩ := List.getElem?_eq_some_iff.1 h1
  obtain ⟨g2, e2⟩ := List.getElem?_eq_some_iff.1 h2
  have := open_is h hj (k := m + 1) (by omega) g2 (by show (D[m + 1 - 1]'(by omega)).1 < _; rw [show D[m + 1 - 1]'(by omega) = D[m] from rfl, e1, e2]; exact hlt)
  rw [this]
  show slcR _ (D[m]'(by omega)).1 = _
  rw [e1]
def RetStrips (a b : List Rc) (R : List St2 → (Nat → Prop) → World → Prop) (e : Ending) (w' : World) : Prop := e = .returned (.tuple #[]) ∧ ∃ D P', Swp a b D ∧ R (visW (slcR a) (slcR b) D D.length) P' w'
theorem ostep_same (j x : Int) (bg : Bool) (p : Int × Int) (o : List (Int × Int)) : ostep j o (x, j, bg, p) = if bg = true then insP p o else remP p o := by unfold ostep; rw [if_pos rfl]
theorem ostep_other {j q : Int} (h : q ≠ j) (x : Int) (bg : Bool) (p : Int × Int) (o : List (Int × Int)) : ostep j o (x, q, bg, p) = o := by unfold ostep; rw [if_neg h]
set_option maxRecDepth 100000 in
set_option maxHeartbeats 12800000 in
theorem pStrips_any (F : Nat) (cs : Array Value) (R : List St2 → (Nat → Prop) → World → Prop) (u v : Value) (a b : List Rc) (w : World) (L L2 : Nat) (hV : VisC w.heap.size F cs R) (hu : RdR w L w.heap.size u a) (hv : RdR w L2 w.heap.size v b) (lab : a.length + b.length ≤ 6000) (h0 : R [] (fun _ => False) w) :
    Calls Tryz.prog 54 #[u, v, .func (.func F) #[] cs] w (RetStrips a b R) := by
  have hla := bndR_len 0 a
  have hlb := bndR_len 1 b
  have HV := Lib.hid hV
  have eg := hV.enters
  have H0 := Lib.hid h0
  clear hV h0
  go_enter Tryz.func54, Tryz.ntmps54
  go_wp2_with fail
  refine (rBoundsOf_any u a 0 w L hu (by omega)).mono ?_
  rintro e w1 ⟨v1, rfl, hr1, hb1⟩
  have z1 := hb1.size
  go_wp2_with fail
  refine (rBoundsOf_any v b 1 w1 L2 ((hv.below hb1).more z1 (Nat.le_refl _)) (by omega)).mono ?_
  rintro e w2 ⟨v2, rfl, hr2, hb2⟩
  have z2 := hb2.size
  have B2 := hb1.trans (hb2.mono z1)
  have HR1 := Lib.hid hr1
  have HR2 := Lib.hid hr2
  obtain ⟨A1, c1, rfl, _, _⟩ := hr1
  obtain ⟨A2, c2, rfl, _, _⟩ := hr2
  go_wp2_with fail
  have bW : Below w2.heap.size w2 (w2.alloc (.cells #[.slice A1 (bndR 0 a).length c1, .slice A2 (bndR 1 b).length c2] 75)) := (Below.refl _ _).alloc (Nat.le_refl _) _
  have oW := Own.new w2 75 #[.slice A1 (bndR 0 a).length c1, .slice A2 (bndR 1 b).length c2]
  have sW : w2.heap.size < (w2.alloc (.cells #[.slice A1 (bndR 0 a).length c1, .slice A2 (bndR 1 b).length c2] 75)).heap.size := by simp
  refine (concatO_any _ _ (bndR 0 a) (bndR 1 b) w2.heap.size _ w.heap.size w1.heap.size sW (oW.cell 0) (oW.cell 1) (((HR1.out.below (hb2.trans (bW.mono z2))).more (by omega) (Nat.le_refl _))) ((HR2.out.below bW).more (by omega) (Nat.le_refl _)) (by omega) (by omega)).mono ?_
  rintro e w3 ⟨v3, rfl, hown3, hb3⟩
  have B3 := B2.trans ((bW.mono (by omega)).trans (hb3.mono (by omega)))
  have z3 := hb3.size
  clear HR1 HR2 hb1 hb2 oW hu hv
  go_wp2_with fail
  refine (sort_bo v3 _ w3 _ hown3 (by rw [List.length_append]; omega)).mono ?_
  rintro e w4 ⟨rfl, D, hperm, hsort, hrD, hb4⟩
  have B4 := B3.trans (hb4.mono (by omega))
  have HSw := Lib.hid (Swp.mk (a := a) (b := b) hsort hperm)
  have hDl : D.length ≤ 12000 := by have := HSw.out.len; omega
  have hRD := Lib.hid (hrD.more (Nat.le_refl _) (show w.heap.size ≤ _ by omega))
  obtain ⟨AD, cD, rfl, hD63, _⟩ := hrD
  have z4 := B4.size
  clear hperm hsort hown3 hb3 hb4 bW hla hlb
  have oA := Own.new w4 82 #[.slice none 0 0, .slice none 0 0]
  have bA : Below w4.heap.size w4 (w4.alloc (.cells #[.slice none 0 0, .slice none 0 0] 82)) := (Below.refl _ _).alloc (Nat.le_refl _) _
  have sA : w4.heap.size < (w4.alloc (.cells #[.slice none 0 0, .slice none 0 0] 82)).heap.size := by simp
  go_wp2
  generalize hW9 : w4.alloc (.cells #[.slice none 0 0, .slice none 0 0] 82) = W9 at *
  clear hW9
  have hRD9 := Lib.hid (hRD.out.below bA)
  generalize hh9 : w4.heap.size = h9 at *
  clear hh9
  generalize hU : W9.heap.size = U0 at *
  have hSt : StI w.heap.size F h9 U0 cs R D (.slice AD D.length cD) 0 (visW (slcR a) (slcR b) D 0) (fun _ => False) (.slice none 0 0) (.slice none 0 0) W9 :=
    ⟨oA, own_nilP _ _, own_nilP _ _, fun g h => by simp [Value.ownBlock] at h, HV.out.keeps _ _ _ _ H0.out (KeepS.of_below (B4.trans (bA.mono z4))), fun _ h => h.elim, fun _ _ h => h, fun _ _ h => h, hRD9.out, by rw [hU]; exact Nat.le_refl _, z4, sA⟩
  go_loopw [20] (fun i wr => ∃ (k : Nat) (P : Nat → Prop) (o0 o1 : Value), k ≤ D.length ∧ i = .int .i64 k ∧ StI w.heap.size F h9 U0 cs R D (.slice AD D.length cD) k (visW (slcR a) (slcR b) D k) P o0 o1 wr) (fun i _ => D.length - (intOf i).toNat)
  case atStart => exact ⟨0, _, _, _, by omega, rfl, hSt⟩
  case round =>
    obtain ⟨k, P, o0, o1, hk, rfl, hI⟩ := hrel
    clear hSt oA bA hRD9 hRD B2 B3
    have HIW := Lib.hid hI
    obtain ⟨A0, n0, c0, rfl⟩ := own_slice hI.r0
    obtain ⟨A1, n1, c1, rfl⟩ := own_slice hI.r1
    clear hI
    by_cases hlt : k < D.length
    · have hx := List.getElem?_eq_getElem hlt
      generalize D[k] = d at hx
      obtain ⟨x, j, bg, pa, pb⟩ := d
      have hj := HSw.out.list hx
      have HXD := Lib.hid hx
      obtain ⟨ad, rfl, hLad, hab, d0, d1, d2, d3, d4⟩ := HIW.out.rd.at hx
      rw [add_more _ _ 1 (by decide)] at d1
      rw [add_more _ _ 2 (by decide)] at d2
      rw [add_more _ _ 3 (by decide)] at d3
      rw [add_more _ _ 4 (by decide)] at d4
      dsimp only at d0 d1 d2 d3 d4 hj
      have hxa := atB_get hx
      dsimp only at hxa
      clear hx
      have bX0 : Below wr.heap.size wr (wr.alloc (.cells #[.int .i64 x, .int .i64 j, .bool bg, .int .i64 pa, .int .i64 pb] 78)) := (Below.refl _ _).alloc (Nat.le_refl _) _
      have oX0 := Own.new wr 78 #[.int .i64 x, .int .i64 j, .bool bg, .int .i64 pa, .int .i64 pb]
      have sX0 : wr.heap.size < (wr.alloc (.cells #[.int .i64 x, .int .i64 j, .bool bg, .int .i64 pa, .int .i64 pb] 78)).heap.size := by simp
      have HIV := Lib.hid (HIW.out.below HV.out bX0)
      have hlo := HIW.out.lo
      have hhi := HIW.out.hi
      have hsz := HIW.out.size
      rcases Nat.eq_zero_or_pos k with rfl | hk0
      · have hN := Lib.hid (visW_no (ga := slcR a) (gb := slcR b) (D := D) (k := 0) (fun h => by omega))
        have hz0 : ad.add (0 * 5) = ad := by simp [Addr.add]
        rw [hz0] at d0 d1 d2 d3 d4
        go_wp2
        generalize hV2 : wr.alloc (.cells #[.int .i64 x, .int .i64 j, .bool bg, .int .i64 pa, .int .i64 pb] 78) = V at *
        clear hV2
        generalize hgN : wr.heap.size = gN at *
        have g0 : ∀ p : After V, p.w.cell? ⟨gN, 0, none⟩ = some (.int .i64 x) := after_cell sX0 (oX0.cell 0)
        (refine wp_region_after (by kernel_rfl) (by kernel_rfl) ?_; (repeat (go_big_quiet_step (fail))); refine wpQuiet_nil ?_; intro wq hw0; obtain ⟨⟨wq0, hbq⟩, hw1⟩ := hw0; subst hw1; (try dsimp only))
        have oN := Own.below oX0 hbq sX0
        have HI := Lib.hid (HIV.out.below HV.out hbq)
        have HNE := Lib.hid (show gN ≠ h9 by have h1 := HIW.out.bx.lt; omega)
        go_wp2
        clear g0 oX0 HIV bX0 d0 d1 d2 d3 d4
        generalize wq = X at *
        rcases hj with rfl | rfl
        · have hE0 : opn 0 (D.take (0 + 1)) = (if bg = true then insP (pa, pb) (opn 0 (D.take (0))) else remP (pa, pb) (opn 0 (D.take (0)))) := (opn_step 0 HXD.out).trans (ostep_same _ _ _ _ _)
          have hE1 : opn 1 (D.take (0 + 1)) = opn 1 (D.take (0)) := (opn_step 1 HXD.out).trans (ostep_other (by decide) _ _ _ _)
          have HC := Lib.hid (pChg_any (.slice A0 n0 c0) (opn 0 (D.take (0))) x 0 bg (pa, pb) X.drew U0 (World.ownsRow.drew HI.out.r0) (HSw.out.srtO 0 (by omega)) (HSw.out.mem HXD.out) HI.out.size (by have := opn_len 0 (D.take (0)); rw [List.length_take] at this; omega))
          have HE0 := Lib.hid hE0
          have HE1 := Lib.hid hE1
          clear hE0 hE1
          have kd : X.drew.cell? ⟨h9, 0, none⟩ = some (.slice A0 n0 c0) := HI.out.bx.cell 0
          have s0 : X.drew.cell? ⟨gN, 0, none⟩ = some (.int .i64 x) ∧ X.drew.cell? ⟨gN, 1, none⟩ = some (.int .i64 0) ∧ X.drew.cell? ⟨gN, 2, none⟩ = some (.bool bg) ∧ X.drew.cell? ⟨gN, 3, none⟩ = some (.int .i64 pa) ∧ X.drew.cell? ⟨gN, 4, none⟩ = some (.int .i64 pb) := ⟨oN.cell 0, oN.cell 1, oN.cell 2, oN.cell 3, oN.cell 4⟩
          refine wp_region_held_drew (S := fun w' => w'.cell? ⟨gN, 0, none⟩ = some (.int .i64 x) ∧ w'.cell? ⟨gN, 1, none⟩ = some (.int .i64 0) ∧ w'.cell? ⟨gN, 2, none⟩ = some (.bool bg) ∧ w'.cell? ⟨gN, 3, none⟩ = some (.int .i64 pa) ∧ w'.cell? ⟨gN, 4, none⟩ = some (.int .i64 pb)) (by kernel_rfl) s0 (fun hHeld => ?_)
          (refine takeD (i := 0) (d := 55) (oi := _) (v := ?_) rfl rfl (by kernel_rfl) (by kernel_rfl) (by kernel_rfl) (fun _ _ _ h => h) (Or.inl ⟨by rfl, ?_⟩) (by assumption) ?_; rotate_left; (focus ((intro w hSw; (try dsimp only at hSw); go_simp) <;> (with_reducible rfl))); (try simp only [Act.put, List.setIfInBounds_toArray, List.set_cons_zero, List.set_cons_succ]))
          (refine takeD (i := 1) (d := 56) (oi := _) (v := ?_) rfl rfl (by kernel_rfl) (by kernel_rfl) (by kernel_rfl) (fun _ _ _ h => h) (Or.inl ⟨by rfl, ?_⟩) (by assumption) ?_; rotate_left; (focus ((intro w hSw; (try dsimp only at hSw); go_simp) <;> (with_reducible rfl))); (try simp only [Act.put, List.setIfInBounds_toArray, List.set_cons_zero, List.set_cons_succ]))
          (refine takeD (i := 2) (d := 57) (oi := _) (v := ?_) rfl rfl (by kernel_rfl) (by kernel_rfl) (by kernel_rfl) (fun _ _ _ h => h) (Or.inl ⟨by rfl, ?_⟩) (by assumption) ?_; rotate_left; (focus ((intro w hSw; (try dsimp only at hSw); go_simp) <;> (with_reducible rfl))); (try simp only [Act.put, List.setIfInBounds_toArray, List.set_cons_zero, List.set_cons_succ]))
          (refine takeD (i := 3) (d := 58) (oi := _) (v := ?_) rfl rfl (by kernel_rfl) (by kernel_rfl) (by kernel_rfl) (fun _ _ _ h => h) (Or.inl ⟨by rfl, ?_⟩) (by assumption) ?_; rotate_left; (focus ((intro w hSw; (try dsimp only at hSw); go_simp) <;> (with_reducible rfl))); (try simp only [Act.put, List.setIfInBounds_toArray, List.set_cons_zero, List.set_cons_succ]))
          (refine takeD (i := 4) (d := 59) (oi := _) (v := ?_) rfl rfl (by kernel_rfl) (by kernel_rfl) (by kernel_rfl) (fun _ _ _ h => h) (Or.inl ⟨by rfl, ?_⟩) (by assumption) ?_; rotate_left; (focus ((intro w hSw; (try dsimp only at hSw); go_simp) <;> (with_reducible rfl))); (try simp only [Act.put, List.setIfInBounds_toArray, List.set_cons_zero, List.set_cons_succ]))
          (refine takeD (i := 6) (d := 61) (oi := _) (v := ?_) rfl rfl (by kernel_rfl) (by kernel_rfl) (by kernel_rfl) (fun _ _ _ h => h) (Or.inl ⟨by rfl, ?_⟩) (by assumption) ?_; rotate_left; (focus ((intro w hSw; (try dsimp only at hSw); go_simp) <;> (with_reducible rfl))); (try simp only [Act.put, List.setIfInBounds_toArray, List.set_cons_zero, List.set_cons_succ]))
          refine wpAnyH_ready (rs := [5]) (by kernel_rfl) (by simp) ?_
          refine AllReadyH.cons (o := _) rfl (fun K hK => ?_) AllReadyH.nil
          go_simp
          skip
          refine hK.out _ _ (by (try dsimp only); exact s0) (fun hHeld => ?_)
          clear hK
          (try simp only [Act.put, List.setIfInBounds_toArray, List.set_cons_zero, List.set_cons_succ])
          refine wpAnyH_ready (rs := [7]) (by kernel_rfl) (by simp) ?_
          refine AllReadyH.cons (o := _) rfl (fun K hK => ?_) AllReadyH.nil
          go_simp
          (go_at_call 78; refine HC.out.mono ?_; rintro e w5 ⟨v5, rfl, hl5, hg5, hv5⟩; have oN5 := Own.grown (show Own X.drew gN _ _ from oN) hg5 (own_apart (World.ownsRow.drew HI.out.r0) (show Own X.drew gN _ _ from oN) (by decide)); have s5 : w5.cell? ⟨gN, 0, none⟩ = some (.int .i64 x) ∧ w5.cell? ⟨gN, 1, none⟩ = some (.int .i64 0) ∧ w5.cell? ⟨gN, 2, none⟩ = some (.bool bg) ∧ w5.cell? ⟨gN, 3, none⟩ = some (.int .i64 pa) ∧ w5.cell? ⟨gN, 4, none⟩ = some (.int .i64 pb) := ⟨oN5.cell 0, oN5.cell 1, oN5.cell 2, oN5.cell 3, oN5.cell 4⟩; have o95 := (HI.out.lay0 (Below.drew (Below.refl _ _)) hg5 hv5).1; have k5 := o95.cell 0; have f5 := o95.free 0; have HN5 := Lib.hid (HI.out.store0 HV.out (Below.drew (Below.refl _ _)) hl5 hg5 hv5 HE0.out HE1.out); obtain ⟨A5, n5, c5, rfl⟩ := own_slice hl5; clear hl5 hg5 hv5; go_wp2_with fail)
          refine hK.out _ _ (by (try dsimp only); exact s5) (fun hHeld => ?_)
          clear hK
          (try simp only [Act.put, List.setIfInBounds_toArray, List.set_cons_zero, List.set_cons_succ])
          (refine takeD (i := 8) (d := 63) (oi := _) (v := ?_) rfl rfl (by kernel_rfl) (by kernel_rfl) (by kernel_rfl) (fun _ _ _ h => h) (Or.inl ⟨by rfl, ?_⟩) (by assumption) ?_; rotate_left; (focus ((intro w hSw; (try dsimp only at hSw); go_simp) <;> (with_reducible rfl))); (try simp only [Act.put, List.setIfInBounds_toArray, List.set_cons_zero, List.set_cons_succ]))
          have oNX := oN5.far (p := ⟨h9, 0, none⟩) HNE.out (.slice A5 n5 c5)
          refine wpAnyH_ready (rs := [9]) (by kernel_rfl) (by simp) ?_
          refine AllReadyH.cons (o := _) rfl (fun K hK => ?_) AllReadyH.nil
          go_simp
          skip
          refine hK.out _ _ (by (try dsimp only); exact ⟨oNX.cell 0, oNX.cell 1, oNX.cell 2, oNX.cell 3, oNX.cell 4⟩) (fun hHeld => ?_)
          clear hK
          (try simp only [Act.put, List.setIfInBounds_toArray, List.set_cons_zero, List.set_cons_succ])
          refine wpAnyH_done (by kernel_rfl) ?_ _
          go_wp2
          go_roundw
          case rel => exact ⟨0 + 1, P, .slice A5 n5 c5, .slice A1 n1 c1, by omega, by go_num, by rw [hN.out]; exact HN5.out⟩
          case measure => simp [intOf]; omega
        · have hE1 : opn 1 (D.take (0 + 1)) = (if bg = true then insP (pa, pb) (opn 1 (D.take (0))) else remP (pa, pb) (opn 1 (D.take (0)))) := (opn_step 1 HXD.out).trans (ostep_same _ _ _ _ _)
          have hE0 : opn 0 (D.take (0 + 1)) = opn 0 (D.take (0)) := (opn_step 0 HXD.out).trans (ostep_other (by decide) _ _ _ _)
          have HC := Lib.hid (pChg_any (.slice A1 n1 c1) (opn 1 (D.take (0))) x 1 bg (pa, pb) X.drew U0 (World.ownsRow.drew HI.out.r1) (HSw.out.srtO 1 (by omega)) (HSw.out.mem HXD.out) HI.out.size (by have := opn_len 1 (D.take (0)); rw [List.length_take] at this; omega))
          have HE0 := Lib.hid hE0
          have HE1 := Lib.hid hE1
          clear hE0 hE1
          have kd : X.drew.cell? ⟨h9, 1, none⟩ = some (.slice A1 n1 c1) := HI.out.bx.cell 1
          have s0 : X.drew.cell? ⟨gN, 0, none⟩ = some (.int .i64 x) ∧ X.drew.cell? ⟨gN, 1, none⟩ = some (.int .i64 1) ∧ X.drew.cell? ⟨gN, 2, none⟩ = some (.bool bg) ∧ X.drew.cell? ⟨gN, 3, none⟩ = some (.int .i64 pa) ∧ X.drew.cell? ⟨gN, 4, none⟩ = some (.int .i64 pb) := ⟨oN.cell 0, oN.cell 1, oN.cell 2, oN.cell 3, oN.cell 4⟩
          refine wp_region_held_drew (S := fun w' => w'.cell? ⟨gN, 0, none⟩ = some (.int .i64 x) ∧ w'.cell? ⟨gN, 1, none⟩ = some (.int .i64 1) ∧ w'.cell? ⟨gN, 2, none⟩ = some (.bool bg) ∧ w'.cell? ⟨gN, 3, none⟩ = some (.int .i64 pa) ∧ w'.cell? ⟨gN, 4, none⟩ = some (.int .i64 pb)) (by kernel_rfl) s0 (fun hHeld => ?_)
          (refine takeD (i := 0) (d := 55) (oi := _) (v := ?_) rfl rfl (by kernel_rfl) (by kernel_rfl) (by kernel_rfl) (fun _ _ _ h => h) (Or.inl ⟨by rfl, ?_⟩) (by assumption) ?_; rotate_left; (focus ((intro w hSw; (try dsimp only at hSw); go_simp) <;> (with_reducible rfl))); (try simp only [Act.put, List.setIfInBounds_toArray, List.set_cons_zero, List.set_cons_succ]))
          (refine takeD (i := 1) (d := 56) (oi := _) (v := ?_) rfl rfl (by kernel_rfl) (by kernel_rfl) (by kernel_rfl) (fun _ _ _ h => h) (Or.inl ⟨by rfl, ?_⟩) (by assumption) ?_; rotate_left; (focus ((intro w hSw; (try dsimp only at hSw); go_simp) <;> (with_reducible rfl))); (try simp only [Act.put, List.setIfInBounds_toArray, List.set_cons_zero, List.set_cons_succ]))
          (refine takeD (i := 2) (d := 57) (oi := _) (v := ?_) rfl rfl (by kernel_rfl) (by kernel_rfl) (by kernel_rfl) (fun _ _ _ h => h) (Or.inl ⟨by rfl, ?_⟩) (by assumption) ?_; rotate_left; (focus ((intro w hSw; (try dsimp only at hSw); go_simp) <;> (with_reducible rfl))); (try simp only [Act.put, List.setIfInBounds_toArray, List.set_cons_zero, List.set_cons_succ]))
          (refine takeD (i := 3) (d := 58) (oi := _) (v := ?_) rfl rfl (by kernel_rfl) (by kernel_rfl) (by kernel_rfl) (fun _ _ _ h => h) (Or.inl ⟨by rfl, ?_⟩) (by assumption) ?_; rotate_left; (focus ((intro w hSw; (try dsimp only at hSw); go_simp) <;> (with_reducible rfl))); (try simp only [Act.put, List.setIfInBounds_toArray, List.set_cons_zero, List.set_cons_succ]))
          (refine takeD (i := 4) (d := 59) (oi := _) (v := ?_) rfl rfl (by kernel_rfl) (by kernel_rfl) (by kernel_rfl) (fun _ _ _ h => h) (Or.inl ⟨by rfl, ?_⟩) (by assumption) ?_; rotate_left; (focus ((intro w hSw; (try dsimp only at hSw); go_simp) <;> (with_reducible rfl))); (try simp only [Act.put, List.setIfInBounds_toArray, List.set_cons_zero, List.set_cons_succ]))
          (refine takeD (i := 6) (d := 61) (oi := _) (v := ?_) rfl rfl (by kernel_rfl) (by kernel_rfl) (by kernel_rfl) (fun _ _ _ h => h) (Or.inl ⟨by rfl, ?_⟩) (by assumption) ?_; rotate_left; (focus ((intro w hSw; (try dsimp only at hSw); go_simp) <;> (with_reducible rfl))); (try simp only [Act.put, List.setIfInBounds_toArray, List.set_cons_zero, List.set_cons_succ]))
          refine wpAnyH_ready (rs := [5]) (by kernel_rfl) (by simp) ?_
          refine AllReadyH.cons (o := _) rfl (fun K hK => ?_) AllReadyH.nil
          go_simp
          skip
          refine hK.out _ _ (by (try dsimp only); exact s0) (fun hHeld => ?_)
          clear hK
          (try simp only [Act.put, List.setIfInBounds_toArray, List.set_cons_zero, List.set_cons_succ])
          refine wpAnyH_ready (rs := [7]) (by kernel_rfl) (by simp) ?_
          refine AllReadyH.cons (o := _) rfl (fun K hK => ?_) AllReadyH.nil
          go_simp
          (go_at_call 78; refine HC.out.mono ?_; rintro e w5 ⟨v5, rfl, hl5, hg5, hv5⟩; have oN5 := Own.grown (show Own X.drew gN _ _ from oN) hg5 (own_apart (World.ownsRow.drew HI.out.r1) (show Own X.drew gN _ _ from oN) (by decide)); have s5 : w5.cell? ⟨gN, 0, none⟩ = some (.int .i64 x) ∧ w5.cell? ⟨gN, 1, none⟩ = some (.int .i64 1) ∧ w5.cell? ⟨gN, 2, none⟩ = some (.bool bg) ∧ w5.cell? ⟨gN, 3, none⟩ = some (.int .i64 pa) ∧ w5.cell? ⟨gN, 4, none⟩ = some (.int .i64 pb) := ⟨oN5.cell 0, oN5.cell 1, oN5.cell 2, oN5.cell 3, oN5.cell 4⟩; have o95 := (HI.out.lay1 (Below.drew (Below.refl _ _)) hg5 hv5).1; have k5 := o95.cell 1; have f5 := o95.free 1; have HN5 := Lib.hid (HI.out.store1 HV.out (Below.drew (Below.refl _ _)) hl5 hg5 hv5 HE1.out HE0.out); obtain ⟨A5, n5, c5, rfl⟩ := own_slice hl5; clear hl5 hg5 hv5; go_wp2_with fail)
          refine hK.out _ _ (by (try dsimp only); exact s5) (fun hHeld => ?_)
          clear hK
          (try simp only [Act.put, List.setIfInBounds_toArray, List.set_cons_zero, List.set_cons_succ])
          (refine takeD (i := 8) (d := 63) (oi := _) (v := ?_) rfl rfl (by kernel_rfl) (by kernel_rfl) (by kernel_rfl) (fun _ _ _ h => h) (Or.inl ⟨by rfl, ?_⟩) (by assumption) ?_; rotate_left; (focus ((intro w hSw; (try dsimp only at hSw); go_simp) <;> (with_reducible rfl))); (try simp only [Act.put, List.setIfInBounds_toArray, List.set_cons_zero, List.set_cons_succ]))
          have oNX := oN5.far (p := ⟨h9, 1, none⟩) HNE.out (.slice A5 n5 c5)
          refine wpAnyH_ready (rs := [9]) (by kernel_rfl) (by simp) ?_
          refine AllReadyH.cons (o := _) rfl (fun K hK => ?_) AllReadyH.nil
          go_simp
          skip
          refine hK.out _ _ (by (try dsimp only); exact ⟨oNX.cell 0, oNX.cell 1, oNX.cell 2, oNX.cell 3, oNX.cell 4⟩) (fun hHeld => ?_)
          clear hK
          (try simp only [Act.put, List.setIfInBounds_toArray, List.set_cons_zero, List.set_cons_succ])
          refine wpAnyH_done (by kernel_rfl) ?_ _
          go_wp2
          go_roundw
          case rel => exact ⟨0 + 1, P, .slice A0 n0 c0, .slice A5 n5 c5, by omega, by go_num, by rw [hN.out]; exact HN5.out⟩
          case measure => simp [intOf]; omega
      · obtain ⟨m, rfl⟩ : ∃ m, k = m + 1 := ⟨k - 1, by omega⟩
        have hxp := List.getElem?_eq_getElem (show m < D.length by omega)
        generalize D[m] = d' at hxp
        obtain ⟨y, d1'⟩ := d'
        have hya : atB D (m + 1 - 1) = y := atB_get hxp
        obtain ⟨_, e1, _, _, p0, _⟩ := HIW.out.rd.at hxp
        injection e1 with e1
        subst e1
        dsimp only at p0
        have p1 := (bX0.cell (p := ad.add (m * 5)) (by rw [add_block]; omega)).trans p0
        have HXP := Lib.hid hxp
        clear hxp p0
        have i1 : IntKind.i64.wrap ((m : Int) + 1 - 1) = m := by rw [show (m : Int) + 1 - 1 = m by omega]; exact IntWalk.i64_in _ (by omega)
        have i7 : IntKind.i64.wrap (m : Int) = m := IntWalk.i64_in _ (by omega)
        have hkd : decide (((m + 1 : Nat) : Int) > 0) = true := by simp
        have i2 : (0 : Int) ≤ (m : Int) := by omega
        have i3 : (m : Int) < (D.length : Int) := by omega
        have i5 : (0 : Int) < (m : Int) + 1 := by omega
        by_cases hyx : y < x
        · have hyd : decide (y < x) = true := by simp [hyx]
          have hN := Lib.hid (visW_yes (ga := slcR a) (gb := slcR b) (D := D) (k := m + 1) ⟨by omega, by rw [hya, hxa]; exact hyx⟩)
          rw [hya, hxa] at hN
          go_wp2
          generalize hV2 : wr.alloc (.cells #[.int .i64 x, .int .i64 j, .bool bg, .int .i64 pa, .int .i64 pb] 78) = V at *
          clear hV2
          generalize hgN : wr.heap.size = gN at *
          have g0 : ∀ p : After V, p.w.cell? ⟨gN, 0, none⟩ = some (.int .i64 x) := after_cell sX0 (oX0.cell 0)
          have g3 : ∀ p : After V, p.w.cell? (ad.add (m * 5)) = some (.int .i64 y) := after_cell (by rw [add_block]; omega) p1
          (refine wp_region_after (by kernel_rfl) (by kernel_rfl) ?_; (repeat (go_big_quiet_step (fail))); refine wpQuiet_nil ?_; intro wq hw0; obtain ⟨⟨wq0, hbq⟩, hw1⟩ := hw0; subst hw1; (try dsimp only))
          have oN := Own.below oX0 hbq sX0
          have HI := Lib.hid (HIV.out.below HV.out hbq)
          have HNE := Lib.hid (show gN ≠ h9 by have h1 := HIW.out.bx.lt; omega)
          have pX : wq.cell? (ad.add (m * 5)) = some (.int .i64 y) := g3 ⟨wq, hbq⟩
          clear g0 g3 HIV d0 d1 d2 d3 d4 p1
          generalize wq = Y at *
          go_wp2
          have hz9 := oN.lt
          have hsY := HI.out.size
          have HL0 := Lib.hid (show mjn (opn 0 (D.take (m + 1))) = slcR a y from HSw.out.slc (.inl rfl) HXP.out HXD.out hyx)
          have HL1 := Lib.hid (show mjn (opn 1 (D.take (m + 1))) = slcR b y from HSw.out.slc (.inr rfl) HXP.out HXD.out hyx)
          have hl0 : (opn 0 (D.take (m + 1))).length ≤ 12000 := by have := opn_len 0 (D.take (m + 1)); rw [List.length_take] at this; omega
          have hl1 : (opn 1 (D.take (m + 1))).length ≤ 12000 := by have := opn_len 1 (D.take (m + 1)); rw [List.length_take] at this; omega
          have hs0 : (slcR a y).length ≤ 12000 := by rw [← HL0.out]; exact Nat.le_trans (mjn_len _) hl0
          have hs1 : (slcR b y).length ≤ 12000 := by rw [← HL1.out]; exact Nat.le_trans (mjn_len _) hl1
          have hzl : (visW (slcR a) (slcR b) D (m + 1)).length ≤ 12000 := Nat.le_trans (visW_len _ _ _ _) (by omega)
          have HJ0 := Lib.hid (rjoined_any (.slice A0 n0 c0) (opn 0 (D.take (m + 1))) Y.drew U0 (RdP.of_own (World.ownsRow.drew HI.out.r0) (by omega)) (by omega))
          have HJ1 := Lib.hid (fun (W : World) (hb : Below Y.heap.size Y W) => rjoined_any (.slice A1 n1 c1) (opn 1 (D.take (m + 1))) W U0 (RdP.of_own (own_below HI.out.r1 hb) (by omega)) (by omega))
          rw [HL0.out] at HJ0
          rw [HL1.out] at HJ1
          have HVI := Lib.hid (fun (W : World) (u' v' : Value) (hb : Below Y.heap.size Y W) (hu' : RdP W Y.heap.size W.heap.size u' (slcR a y)) (hv' : RdP W Y.heap.size W.heap.size v' (slcR b y)) =>
            HV.out.call _ P W (y, x) (slcR a y) (slcR b y) u' v' Y.heap.size (HV.out.keeps _ _ _ _ HI.out.rel (KeepS.of_below hb)) (by omega) hb.size (HV.out.lt _ _ _ HI.out.rel) hu' hv' (slc_sp a y) (slc_sp b y) hs0 hs1 hzl)
          have HPN := Lib.hid (show ¬ P gN by intro hp; have := HV.out.lt _ _ _ HIW.out.rel gN hp; omega)
          have oNY := oN
          have s0 : Y.drew.cell? (ad.add (m * 5)) = some (.int .i64 y) ∧ Y.drew.cell? ⟨gN, 0, none⟩ = some (.int .i64 x) ∧ Y.drew.cell? ⟨h9, 0, none⟩ = some (.slice A0 n0 c0) ∧ Y.drew.cell? ⟨h9, 1, none⟩ = some (.slice A1 n1 c1) := ⟨pX, oN.cell 0, HI.out.bx.cell 0, HI.out.bx.cell 1⟩
          have HS := Lib.hid (fun (W : World) (hb : Below Y.heap.size Y W) => (⟨(hb.cell (p := ad.add (m * 5)) (by rw [add_block]; omega)).trans s0.1, (hb.cell (p := ⟨gN, 0, none⟩) hz9).trans s0.2.1, (hb.cell (p := ⟨h9, 0, none⟩) HI.out.bx.lt).trans s0.2.2.1, (hb.cell (p := ⟨h9, 1, none⟩) HI.out.bx.lt).trans s0.2.2.2⟩ : W.cell? (ad.add (m * 5)) = some (.int .i64 y) ∧ W.cell? ⟨gN, 0, none⟩ = some (.int .i64 x) ∧ W.cell? ⟨h9, 0, none⟩ = some (.slice A0 n0 c0) ∧ W.cell? ⟨h9, 1, none⟩ = some (.slice A1 n1 c1)))
          have HSV := Lib.hid (fun (W W2 : World) (hb : Below Y.heap.size Y W) (hK : KeepV w.heap.size P W W2) => (⟨(hK.cell (a := ad.add (m * 5)) (by rw [add_block]; have := hb.size; omega) (by rw [add_block]; exact hLad) (by rw [add_block]; intro hp; have := HI.out.pu _ hp; omega)).trans (HS.out W hb).1, (hK.cell (a := ⟨gN, 0, none⟩) (by have := hb.size; show gN < _; omega) (by show _ ≤ gN; omega) HPN.out).trans (HS.out W hb).2.1, (hK.cell (a := ⟨h9, 0, none⟩) (by have := hb.size; show h9 < _; omega) hlo (fun hp => by have h7 : U0 ≤ h9 := HI.out.pu h9 hp; omega)).trans (HS.out W hb).2.2.1, (hK.cell (a := ⟨h9, 1, none⟩) (by have := hb.size; show h9 < _; omega) hlo (fun hp => by have h7 : U0 ≤ h9 := HI.out.pu h9 hp; omega)).trans (HS.out W hb).2.2.2⟩ : W2.cell? (ad.add (m * 5)) = some (.int .i64 y) ∧ W2.cell? ⟨gN, 0, none⟩ = some (.int .i64 x) ∧ W2.cell? ⟨h9, 0, none⟩ = some (.slice A0 n0 c0) ∧ W2.cell? ⟨h9, 1, none⟩ = some (.slice A1 n1 c1)))
          clear hl0 hl1 hs0 hs1 hzl HL0 HL1 pX
          refine wp_region_held_drew (S := fun w' => w'.cell? (ad.add (m * 5)) = some (.int .i64 y) ∧ w'.cell? ⟨gN, 0, none⟩ = some (.int .i64 x) ∧ w'.cell? ⟨h9, 0, none⟩ = some (.slice A0 n0 c0) ∧ w'.cell? ⟨h9, 1, none⟩ = some (.slice A1 n1 c1)) (by kernel_rfl) s0 (fun hHeld => ?_)
          (refine takeD (i := 0) (d := 38) (oi := _) (v := ?_) rfl rfl (by kernel_rfl) (by kernel_rfl) (by kernel_rfl) (fun _ _ _ h => h) (Or.inl ⟨by rfl, ?_⟩) (by assumption) ?_; rotate_left; (focus ((intro w hSw; (try dsimp only at hSw); go_simp) <;> (with_reducible rfl))); (try simp only [Act.put, List.setIfInBounds_toArray, List.set_cons_zero, List.set_cons_succ]))
          (refine takeD (i := 1) (d := 39) (oi := _) (v := ?_) rfl rfl (by kernel_rfl) (by kernel_rfl) (by kernel_rfl) (fun _ _ _ h => h) (Or.inl ⟨by rfl, ?_⟩) (by assumption) ?_; rotate_left; (focus ((intro w hSw; (try dsimp only at hSw); go_simp) <;> (with_reducible rfl))); (try simp only [Act.put, List.setIfInBounds_toArray, List.set_cons_zero, List.set_cons_succ]))
          (refine takeD (i := 2) (d := 40) (oi := _) (v := ?_) rfl rfl (by kernel_rfl) (by kernel_rfl) (by kernel_rfl) (fun _ _ _ h => h) (Or.inl ⟨by rfl, ?_⟩) (by assumption) ?_; rotate_left; (focus ((intro w hSw; (try dsimp only at hSw); go_simp) <;> (with_reducible rfl))); (try simp only [Act.put, List.setIfInBounds_toArray, List.set_cons_zero, List.set_cons_succ]))
          (refine takeD (i := 3) (d := 41) (oi := _) (v := ?_) rfl rfl (by kernel_rfl) (by kernel_rfl) (by kernel_rfl) (fun _ _ _ h => h) (Or.inl ⟨by rfl, ?_⟩) (by assumption) ?_; rotate_left; (focus ((intro w hSw; (try dsimp only at hSw); go_simp) <;> (with_reducible rfl))); (try simp only [Act.put, List.setIfInBounds_toArray, List.set_cons_zero, List.set_cons_succ]))
          (refine takeD (i := 4) (d := 42) (oi := _) (v := ?_) rfl rfl (by kernel_rfl) (by kernel_rfl) (by kernel_rfl) (fun _ _ _ h => h) (Or.inl ⟨by rfl, ?_⟩) (by assumption) ?_; rotate_left; (focus ((intro w hSw; (try dsimp only at hSw); go_simp) <;> (with_reducible rfl))); (try simp only [Act.put, List.setIfInBounds_toArray, List.set_cons_zero, List.set_cons_succ]))
          (refine takeD (i := 5) (d := 43) (oi := _) (v := ?_) rfl rfl (by kernel_rfl) (by kernel_rfl) (by kernel_rfl) (fun _ _ _ h => h) (Or.inl ⟨by rfl, ?_⟩) (by assumption) ?_; rotate_left; (focus ((intro w hSw; (try dsimp only at hSw); go_simp) <;> (with_reducible rfl))); (try simp only [Act.put, List.setIfInBounds_toArray, List.set_cons_zero, List.set_cons_succ]))
          (refine takeD (i := 6) (d := 44) (oi := _) (v := ?_) rfl rfl (by kernel_rfl) (by kernel_rfl) (by kernel_rfl) (fun _ _ _ h => h) (Or.inl ⟨by rfl, ?_⟩) (by assumption) ?_; rotate_left; (focus ((intro w hSw; (try dsimp only at hSw); go_simp) <;> (with_reducible rfl))); (try simp only [Act.put, List.setIfInBounds_toArray, List.set_cons_zero, List.set_cons_succ]))
          (refine takeD (i := 7) (d := 45) (oi := _) (v := ?_) rfl rfl (by kernel_rfl) (by kernel_rfl) (by kernel_rfl) (fun _ _ _ h => h) (Or.inl ⟨by rfl, ?_⟩) (by assumption) ?_; rotate_left; (focus ((intro w hSw; (try dsimp only at hSw); go_simp) <;> (with_reducible rfl))); (try simp only [Act.put, List.setIfInBounds_toArray, List.set_cons_zero, List.set_cons_succ]))
          (refine takeD (i := 8) (d := 46) (oi := _) (v := ?_) rfl rfl (by kernel_rfl) (by kernel_rfl) (by kernel_rfl) (fun _ _ _ h => h) (Or.inl ⟨by rfl, ?_⟩) (by assumption) ?_; rotate_left; (focus ((intro w hSw; (try dsimp only at hSw); go_simp) <;> (with_reducible rfl))); (try simp only [Act.put, List.setIfInBounds_toArray, List.set_cons_zero, List.set_cons_succ]))
          (refine takeD (i := 9) (d := 47) (oi := _) (v := ?_) rfl rfl (by kernel_rfl) (by kernel_rfl) (by kernel_rfl) (fun _ _ _ h => h) (Or.inl ⟨by rfl, ?_⟩) (by assumption) ?_; rotate_left; (focus ((intro w hSw; (try dsimp only at hSw); go_simp) <;> (with_reducible rfl))); (try simp only [Act.put, List.setIfInBounds_toArray, List.set_cons_zero, List.set_cons_succ]))
          (refine takeD (i := 10) (d := 48) (oi := _) (v := ?_) rfl rfl (by kernel_rfl) (by kernel_rfl) (by kernel_rfl) (fun _ _ _ h => h) (Or.inl ⟨by rfl, ?_⟩) (by assumption) ?_; rotate_left; (focus ((intro w hSw; (try dsimp only at hSw); go_simp) <;> (with_reducible rfl))); (try simp only [Act.put, List.setIfInBounds_toArray, List.set_cons_zero, List.set_cons_succ]))
          (refine takeD (i := 11) (d := 49) (oi := _) (v := ?_) rfl rfl (by kernel_rfl) (by kernel_rfl) (by kernel_rfl) (fun _ _ _ h => h) (Or.inl ⟨by rfl, ?_⟩) (by assumption) ?_; rotate_left; (focus ((intro w hSw; (try dsimp only at hSw); go_simp) <;> (with_reducible rfl))); (try simp only [Act.put, List.setIfInBounds_toArray, List.set_cons_zero, List.set_cons_succ]))
          (refine takeD (i := 13) (d := 51) (oi := _) (v := ?_) rfl rfl (by kernel_rfl) (by kernel_rfl) (by kernel_rfl) (fun _ _ _ h => h) (Or.inl ⟨by rfl, ?_⟩) (by assumption) ?_; rotate_left; (focus ((intro w hSw; (try dsimp only at hSw); go_simp) <;> (with_reducible rfl))); (try simp only [Act.put, List.setIfInBounds_toArray, List.set_cons_zero, List.set_cons_succ]))
          (refine takeD (i := 14) (d := 52) (oi := _) (v := ?_) rfl rfl (by kernel_rfl) (by kernel_rfl) (by kernel_rfl) (fun _ _ _ h => h) (Or.inl ⟨by rfl, ?_⟩) (by assumption) ?_; rotate_left; (focus ((intro w hSw; (try dsimp only at hSw); go_simp) <;> (with_reducible rfl))); (try simp only [Act.put, List.setIfInBounds_toArray, List.set_cons_zero, List.set_cons_succ]))
          refine wpAnyH_ready (rs := [12]) (by kernel_rfl) (by simp) ?_
          refine AllReadyH.cons (o := _) rfl (fun K hK => ?_) AllReadyH.nil
          go_simp
          (go_at_call 77; refine HJ0.out.mono ?_; rintro e w5 ⟨x0, rfl, r50, hb5⟩; have b5 : Below Y.heap.size Y w5 := (Below.drew (Below.refl _ _)).trans hb5; have R5 := Lib.hid r50; clear r50 hb5; have s5 := HS.out _ b5; go_wp2_with fail)
          refine hK.out _ _ (by (try dsimp only); exact s5) (fun hHeld => ?_)
          clear hK
          (try simp only [Act.put, List.setIfInBounds_toArray, List.set_cons_zero, List.set_cons_succ])
          refine wpAnyH_ready (rs := [15]) (by kernel_rfl) (by simp) ?_
          refine AllReadyH.cons (o := _) rfl (fun K hK => ?_) AllReadyH.nil
          go_simp
          (go_at_call 77; refine (HJ1.out _ b5).mono ?_; rintro e w6 ⟨x1, rfl, r60, hb6⟩; have b6 : Below Y.heap.size Y w6 := b5.trans (hb6.mono b5.size); have R56 := Lib.hid (R5.out.step hb6 (Nat.le_refl _)); have R6 := Lib.hid (r60.more (Nat.le_refl _) b5.size); clear r60 R5 hb6; have s6 := HS.out _ b6; go_wp2_with fail)
          refine hK.out _ _ (by (try dsimp only); exact s6) (fun hHeld => ?_)
          clear hK
          (try simp only [Act.put, List.setIfInBounds_toArray, List.set_cons_zero, List.set_cons_succ])
          refine wpAnyH_ready (rs := [16]) (by kernel_rfl) (by simp) ?_
          refine AllReadyH.cons (o := _) rfl (fun K hK => ?_) AllReadyH.nil
          go_simp
          (refine (HVI.out _ x0 x1 b6 R56.out R6.out).mono ?_; rintro e w7 ⟨rfl, P7, hR7, hP7, hK7⟩; have s7 := HSV.out _ _ b6 hK7; have HI7 := Lib.hid (HI.out.visit b6 hR7 hP7 hK7); have oN7 := hK7.own (oNY.below b6 hz9) (by omega) HPN.out; clear hR7 hP7 hK7; go_wp2_with fail)
          refine hK.out _ _ (by (try dsimp only); exact s7) (fun hHeld => ?_)
          clear hK
          (try simp only [Act.put, List.setIfInBounds_toArray, List.set_cons_zero, List.set_cons_succ])
          refine wpAnyH_done (by kernel_rfl) ?_ _
          go_wp2
          clear HS HSV HVI HJ0 HJ1 s0 s5 s6 s7 R56 R6 oN oNY HI b5 b6 HPN
          have oN := oN7
          have HI := HI7
          clear oN7 HI7 hz9 hsY hbq oX0 bX0
          generalize w7 = X at *
          rcases hj with rfl | rfl
          · have hE0 : opn 0 (D.take (m + 1 + 1)) = (if bg = true then insP (pa, pb) (opn 0 (D.take (m + 1))) else remP (pa, pb) (opn 0 (D.take (m + 1)))) := (opn_step 0 HXD.out).trans (ostep_same _ _ _ _ _)
            have hE1 : opn 1 (D.take (m + 1 + 1)) = opn 1 (D.take (m + 1)) := (opn_step 1 HXD.out).trans (ostep_other (by decide) _ _ _ _)
            have HC := Lib.hid (pChg_any (.slice A0 n0 c0) (opn 0 (D.take (m + 1))) x 0 bg (pa, pb) X.drew U0 (World.ownsRow.drew HI.out.r0) (HSw.out.srtO 0 (by omega)) (HSw.out.mem HXD.out) HI.out.size (by have := opn_len 0 (D.take (m + 1)); rw [List.length_take] at this; omega))
            have HE0 := Lib.hid hE0
            have HE1 := Lib.hid hE1
            clear hE0 hE1
            have kd : X.drew.cell? ⟨h9, 0, none⟩ = some (.slice A0 n0 c0) := HI.out.bx.cell 0
            have s0 : X.drew.cell? ⟨gN, 0, none⟩ = some (.int .i64 x) ∧ X.drew.cell? ⟨gN, 1, none⟩ = some (.int .i64 0) ∧ X.drew.cell? ⟨gN, 2, none⟩ = some (.bool bg) ∧ X.drew.cell? ⟨gN, 3, none⟩ = some (.int .i64 pa) ∧ X.drew.cell? ⟨gN, 4, none⟩ = some (.int .i64 pb) := ⟨oN.cell 0, oN.cell 1, oN.cell 2, oN.cell 3, oN.cell 4⟩
            refine wp_region_held_drew (S := fun w' => w'.cell? ⟨gN, 0, none⟩ = some (.int .i64 x) ∧ w'.cell? ⟨gN, 1, none⟩ = some (.int .i64 0) ∧ w'.cell? ⟨gN, 2, none⟩ = some (.bool bg) ∧ w'.cell? ⟨gN, 3, none⟩ = some (.int .i64 pa) ∧ w'.cell? ⟨gN, 4, none⟩ = some (.int .i64 pb)) (by kernel_rfl) s0 (fun hHeld => ?_)
            (refine takeD (i := 0) (d := 55) (oi := _) (v := ?_) rfl rfl (by kernel_rfl) (by kernel_rfl) (by kernel_rfl) (fun _ _ _ h => h) (Or.inl ⟨by rfl, ?_⟩) (by assumption) ?_; rotate_left; (focus ((intro w hSw; (try dsimp only at hSw); go_simp) <;> (with_reducible rfl))); (try simp only [Act.put, List.setIfInBounds_toArray, List.set_cons_zero, List.set_cons_succ]))
            (refine takeD (i := 1) (d := 56) (oi := _) (v := ?_) rfl rfl (by kernel_rfl) (by kernel_rfl) (by kernel_rfl) (fun _ _ _ h => h) (Or.inl ⟨by rfl, ?_⟩) (by assumption) ?_; rotate_left; (focus ((intro w hSw; (try dsimp only at hSw); go_simp) <;> (with_reducible rfl))); (try simp only [Act.put, List.setIfInBounds_toArray, List.set_cons_zero, List.set_cons_succ]))
            (refine takeD (i := 2) (d := 57) (oi := _) (v := ?_) rfl rfl (by kernel_rfl) (by kernel_rfl) (by kernel_rfl) (fun _ _ _ h => h) (Or.inl ⟨by rfl, ?_⟩) (by assumption) ?_; rotate_left; (focus ((intro w hSw; (try dsimp only at hSw); go_simp) <;> (with_reducible rfl))); (try simp only [Act.put, List.setIfInBounds_toArray, List.set_cons_zero, List.set_cons_succ]))
            (refine takeD (i := 3) (d := 58) (oi := _) (v := ?_) rfl rfl (by kernel_rfl) (by kernel_rfl) (by kernel_rfl) (fun _ _ _ h => h) (Or.inl ⟨by rfl, ?_⟩) (by assumption) ?_; rotate_left; (focus ((intro w hSw; (try dsimp only at hSw); go_simp) <;> (with_reducible rfl))); (try simp only [Act.put, List.setIfInBounds_toArray, List.set_cons_zero, List.set_cons_succ]))
            (refine takeD (i := 4) (d := 59) (oi := _) (v := ?_) rfl rfl (by kernel_rfl) (by kernel_rfl) (by kernel_rfl) (fun _ _ _ h => h) (Or.inl ⟨by rfl, ?_⟩) (by assumption) ?_; rotate_left; (focus ((intro w hSw; (try dsimp only at hSw); go_simp) <;> (with_reducible rfl))); (try simp only [Act.put, List.setIfInBounds_toArray, List.set_cons_zero, List.set_cons_succ]))
            (refine takeD (i := 6) (d := 61) (oi := _) (v := ?_) rfl rfl (by kernel_rfl) (by kernel_rfl) (by kernel_rfl) (fun _ _ _ h => h) (Or.inl ⟨by rfl, ?_⟩) (by assumption) ?_; rotate_left; (focus ((intro w hSw; (try dsimp only at hSw); go_simp) <;> (with_reducible rfl))); (try simp only [Act.put, List.setIfInBounds_toArray, List.set_cons_zero, List.set_cons_succ]))
            refine wpAnyH_ready (rs := [5]) (by kernel_rfl) (by simp) ?_
            refine AllReadyH.cons (o := _) rfl (fun K hK => ?_) AllReadyH.nil
            go_simp
            skip
            refine hK.out _ _ (by (try dsimp only); exact s0) (fun hHeld => ?_)
            clear hK
            (try simp only [Act.put, List.setIfInBounds_toArray, List.set_cons_zero, List.set_cons_succ])
            refine wpAnyH_ready (rs := [7]) (by kernel_rfl) (by simp) ?_
            refine AllReadyH.cons (o := _) rfl (fun K hK => ?_) AllReadyH.nil
            go_simp
            (go_at_call 78; refine HC.out.mono ?_; rintro e w5 ⟨v5, rfl, hl5, hg5, hv5⟩; have oN5 := Own.grown (show Own X.drew gN _ _ from oN) hg5 (own_apart (World.ownsRow.drew HI.out.r0) (show Own X.drew gN _ _ from oN) (by decide)); have s5 : w5.cell? ⟨gN, 0, none⟩ = some (.int .i64 x) ∧ w5.cell? ⟨gN, 1, none⟩ = some (.int .i64 0) ∧ w5.cell? ⟨gN, 2, none⟩ = some (.bool bg) ∧ w5.cell? ⟨gN, 3, none⟩ = some (.int .i64 pa) ∧ w5.cell? ⟨gN, 4, none⟩ = some (.int .i64 pb) := ⟨oN5.cell 0, oN5.cell 1, oN5.cell 2, oN5.cell 3, oN5.cell 4⟩; have o95 := (HI.out.lay0 (Below.drew (Below.refl _ _)) hg5 hv5).1; have k5 := o95.cell 0; have f5 := o95.free 0; have HN5 := Lib.hid (HI.out.store0 HV.out (Below.drew (Below.refl _ _)) hl5 hg5 hv5 HE0.out HE1.out); obtain ⟨A5, n5, c5, rfl⟩ := own_slice hl5; clear hl5 hg5 hv5; go_wp2_with fail)
            refine hK.out _ _ (by (try dsimp only); exact s5) (fun hHeld => ?_)
            clear hK
            (try simp only [Act.put, List.setIfInBounds_toArray, List.set_cons_zero, List.set_cons_succ])
            (refine takeD (i := 8) (d := 63) (oi := _) (v := ?_) rfl rfl (by kernel_rfl) (by kernel_rfl) (by kernel_rfl) (fun _ _ _ h => h) (Or.inl ⟨by rfl, ?_⟩) (by assumption) ?_; rotate_left; (focus ((intro w hSw; (try dsimp only at hSw); go_simp) <;> (with_reducible rfl))); (try simp only [Act.put, List.setIfInBounds_toArray, List.set_cons_zero, List.set_cons_succ]))
            have oNX := oN5.far (p := ⟨h9, 0, none⟩) HNE.out (.slice A5 n5 c5)
            refine wpAnyH_ready (rs := [9]) (by kernel_rfl) (by simp) ?_
            refine AllReadyH.cons (o := _) rfl (fun K hK => ?_) AllReadyH.nil
            go_simp
            skip
            refine hK.out _ _ (by (try dsimp only); exact ⟨oNX.cell 0, oNX.cell 1, oNX.cell 2, oNX.cell 3, oNX.cell 4⟩) (fun hHeld => ?_)
            clear hK
            (try simp only [Act.put, List.setIfInBounds_toArray, List.set_cons_zero, List.set_cons_succ])
            refine wpAnyH_done (by kernel_rfl) ?_ _
            go_wp2
            go_roundw
            case rel => exact ⟨m + 1 + 1, P7, .slice A5 n5 c5, .slice A1 n1 c1, by omega, by go_num, by rw [hN.out]; exact HN5.out⟩
            case measure => simp [intOf]; omega
          · have hE1 : opn 1 (D.take (m + 1 + 1)) = (if bg = true then insP (pa, pb) (opn 1 (D.take (m + 1))) else remP (pa, pb) (opn 1 (D.take (m + 1)))) := (opn_step 1 HXD.out).trans (ostep_same _ _ _ _ _)
            have hE0 : opn 0 (D.take (m + 1 + 1)) = opn 0 (D.take (m + 1)) := (opn_step 0 HXD.out).trans (ostep_other (by decide) _ _ _ _)
            have HC := Lib.hid (pChg_any (.slice A1 n1 c1) (opn 1 (D.take (m + 1))) x 1 bg (pa, pb) X.drew U0 (World.ownsRow.drew HI.out.r1) (HSw.out.srtO 1 (by omega)) (HSw.out.mem HXD.out) HI.out.size (by have := opn_len 1 (D.take (m + 1)); rw [List.length_take] at this; omega))
            have HE0 := Lib.hid hE0
            have HE1 := Lib.hid hE1
            clear hE0 hE1
            have kd : X.drew.cell? ⟨h9, 1, none⟩ = some (.slice A1 n1 c1) := HI.out.bx.cell 1
            have s0 : X.drew.cell? ⟨gN, 0, none⟩ = some (.int .i64 x) ∧ X.drew.cell? ⟨gN, 1, none⟩ = some (.int .i64 1) ∧ X.drew.cell? ⟨gN, 2, none⟩ = some (.bool bg) ∧ X.drew.cell? ⟨gN, 3, none⟩ = some (.int .i64 pa) ∧ X.drew.cell? ⟨gN, 4, none⟩ = some (.int .i64 pb) := ⟨oN.cell 0, oN.cell 1, oN.cell 2, oN.cell 3, oN.cell 4⟩
            refine wp_region_held_drew (S := fun w' => w'.cell? ⟨gN, 0, none⟩ = some (.int .i64 x) ∧ w'.cell? ⟨gN, 1, none⟩ = some (.int .i64 1) ∧ w'.cell? ⟨gN, 2, none⟩ = some (.bool bg) ∧ w'.cell? ⟨gN, 3, none⟩ = some (.int .i64 pa) ∧ w'.cell? ⟨gN, 4, none⟩ = some (.int .i64 pb)) (by kernel_rfl) s0 (fun hHeld => ?_)
            (refine takeD (i := 0) (d := 55) (oi := _) (v := ?_) rfl rfl (by kernel_rfl) (by kernel_rfl) (by kernel_rfl) (fun _ _ _ h => h) (Or.inl ⟨by rfl, ?_⟩) (by assumption) ?_; rotate_left; (focus ((intro w hSw; (try dsimp only at hSw); go_simp) <;> (with_reducible rfl))); (try simp only [Act.put, List.setIfInBounds_toArray, List.set_cons_zero, List.set_cons_succ]))
            (refine takeD (i := 1) (d := 56) (oi := _) (v := ?_) rfl rfl (by kernel_rfl) (by kernel_rfl) (by kernel_rfl) (fun _ _ _ h => h) (Or.inl ⟨by rfl, ?_⟩) (by assumption) ?_; rotate_left; (focus ((intro w hSw; (try dsimp only at hSw); go_simp) <;> (with_reducible rfl))); (try simp only [Act.put, List.setIfInBounds_toArray, List.set_cons_zero, List.set_cons_succ]))
            (refine takeD (i := 2) (d := 57) (oi := _) (v := ?_) rfl rfl (by kernel_rfl) (by kernel_rfl) (by kernel_rfl) (fun _ _ _ h => h) (Or.inl ⟨by rfl, ?_⟩) (by assumption) ?_; rotate_left; (focus ((intro w hSw; (try dsimp only at hSw); go_simp) <;> (with_reducible rfl))); (try simp only [Act.put, List.setIfInBounds_toArray, List.set_cons_zero, List.set_cons_succ]))
            (refine takeD (i := 3) (d := 58) (oi := _) (v := ?_) rfl rfl (by kernel_rfl) (by kernel_rfl) (by kernel_rfl) (fun _ _ _ h => h) (Or.inl ⟨by rfl, ?_⟩) (by assumption) ?_; rotate_left; (focus ((intro w hSw; (try dsimp only at hSw); go_simp) <;> (with_reducible rfl))); (try simp only [Act.put, List.setIfInBounds_toArray, List.set_cons_zero, List.set_cons_succ]))
            (refine takeD (i := 4) (d := 59) (oi := _) (v := ?_) rfl rfl (by kernel_rfl) (by kernel_rfl) (by kernel_rfl) (fun _ _ _ h => h) (Or.inl ⟨by rfl, ?_⟩) (by assumption) ?_; rotate_left; (focus ((intro w hSw; (try dsimp only at hSw); go_simp) <;> (with_reducible rfl))); (try simp only [Act.put, List.setIfInBounds_toArray, List.set_cons_zero, List.set_cons_succ]))
            (refine takeD (i := 6) (d := 61) (oi := _) (v := ?_) rfl rfl (by kernel_rfl) (by kernel_rfl) (by kernel_rfl) (fun _ _ _ h => h) (Or.inl ⟨by rfl, ?_⟩) (by assumption) ?_; rotate_left; (focus ((intro w hSw; (try dsimp only at hSw); go_simp) <;> (with_reducible rfl))); (try simp only [Act.put, List.setIfInBounds_toArray, List.set_cons_zero, List.set_cons_succ]))
            refine wpAnyH_ready (rs := [5]) (by kernel_rfl) (by simp) ?_
            refine AllReadyH.cons (o := _) rfl (fun K hK => ?_) AllReadyH.nil
            go_simp
            skip
            refine hK.out _ _ (by (try dsimp only); exact s0) (fun hHeld => ?_)
            clear hK
            (try simp only [Act.put, List.setIfInBounds_toArray, List.set_cons_zero, List.set_cons_succ])
            refine wpAnyH_ready (rs := [7]) (by kernel_rfl) (by simp) ?_
            refine AllReadyH.cons (o := _) rfl (fun K hK => ?_) AllReadyH.nil
            go_simp
            (go_at_call 78; refine HC.out.mono ?_; rintro e w5 ⟨v5, rfl, hl5, hg5, hv5⟩; have oN5 := Own.grown (show Own X.drew gN _ _ from oN) hg5 (own_apart (World.ownsRow.drew HI.out.r1) (show Own X.drew gN _ _ from oN) (by decide)); have s5 : w5.cell? ⟨gN, 0, none⟩ = some (.int .i64 x) ∧ w5.cell? ⟨gN, 1, none⟩ = some (.int .i64 1) ∧ w5.cell? ⟨gN, 2, none⟩ = some (.bool bg) ∧ w5.cell? ⟨gN, 3, none⟩ = some (.int .i64 pa) ∧ w5.cell? ⟨gN, 4, none⟩ = some (.int .i64 pb) := ⟨oN5.cell 0, oN5.cell 1, oN5.cell 2, oN5.cell 3, oN5.cell 4⟩; have o95 := (HI.out.lay1 (Below.drew (Below.refl _ _)) hg5 hv5).1; have k5 := o95.cell 1; have f5 := o95.free 1; have HN5 := Lib.hid (HI.out.store1 HV.out (Below.drew (Below.refl _ _)) hl5 hg5 hv5 HE1.out HE0.out); obtain ⟨A5, n5, c5, rfl⟩ := own_slice hl5; clear hl5 hg5 hv5; go_wp2_with fail)
            refine hK.out _ _ (by (try dsimp only); exact s5) (fun hHeld => ?_)
            clear hK
            (try simp only [Act.put, List.setIfInBounds_toArray, List.set_cons_zero, List.set_cons_succ])
            (refine takeD (i := 8) (d := 63) (oi := _) (v := ?_) rfl rfl (by kernel_rfl) (by kernel_rfl) (by kernel_rfl) (fun _ _ _ h => h) (Or.inl ⟨by rfl, ?_⟩) (by assumption) ?_; rotate_left; (focus ((intro w hSw; (try dsimp only at hSw); go_simp) <;> (with_reducible rfl))); (try simp only [Act.put, List.setIfInBounds_toArray, List.set_cons_zero, List.set_cons_succ]))
            have oNX := oN5.far (p := ⟨h9, 1, none⟩) HNE.out (.slice A5 n5 c5)
            refine wpAnyH_ready (rs := [9]) (by kernel_rfl) (by simp) ?_
            refine AllReadyH.cons (o := _) rfl (fun K hK => ?_) AllReadyH.nil
            go_simp
            skip
            refine hK.out _ _ (by (try dsimp only); exact ⟨oNX.cell 0, oNX.cell 1, oNX.cell 2, oNX.cell 3, oNX.cell 4⟩) (fun hHeld => ?_)
            clear hK
            (try simp only [Act.put, List.setIfInBounds_toArray, List.set_cons_zero, List.set_cons_succ])
            refine wpAnyH_done (by kernel_rfl) ?_ _
            go_wp2
            go_roundw
            case rel => exact ⟨m + 1 + 1, P7, .slice A0 n0 c0, .slice A5 n5 c5, by omega, by go_num, by rw [hN.out]; exact HN5.out⟩
            case measure => simp [intOf]; omega
        · have hyd : decide (y < x) = false := by simp; omega
          have hN := Lib.hid (visW_no (ga := slcR a) (gb := slcR b) (D := D) (k := m + 1) (fun h => by rw [hya, hxa] at h; exact hyx h.2))
          go_wp2
          generalize hV2 : wr.alloc (.cells #[.int .i64 x, .int .i64 j, .bool bg, .int .i64 pa, .int .i64 pb] 78) = V at *
          clear hV2
          generalize hgN : wr.heap.size = gN at *
          have g0 : ∀ p : After V, p.w.cell? ⟨gN, 0, none⟩ = some (.int .i64 x) := after_cell sX0 (oX0.cell 0)
          have g3 : ∀ p : After V, p.w.cell? (ad.add (m * 5)) = some (.int .i64 y) := after_cell (by rw [add_block]; omega) p1
          (refine wp_region_after (by kernel_rfl) (by kernel_rfl) ?_; (repeat (go_big_quiet_step (fail))); refine wpQuiet_nil ?_; intro wq hw0; obtain ⟨⟨wq0, hbq⟩, hw1⟩ := hw0; subst hw1; (try dsimp only))
          have oN := Own.below oX0 hbq sX0
          have HI := Lib.hid (HIV.out.below HV.out hbq)
          have HNE := Lib.hid (show gN ≠ h9 by have h1 := HIW.out.bx.lt; omega)
          go_wp2
          clear g0 g3 oX0 HIV bX0 d0 d1 d2 d3 d4 p1
          generalize wq = X at *
          rcases hj with rfl | rfl
          · have hE0 : opn 0 (D.take (m + 1 + 1)) = (if bg = true then insP (pa, pb) (opn 0 (D.take (m + 1))) else remP (pa, pb) (opn 0 (D.take (m + 1)))) := (opn_step 0 HXD.out).trans (ostep_same _ _ _ _ _)
            have hE1 : opn 1 (D.take (m + 1 + 1)) = opn 1 (D.take (m + 1)) := (opn_step 1 HXD.out).trans (ostep_other (by decide) _ _ _ _)
            have HC := Lib.hid (pChg_any (.slice A0 n0 c0) (opn 0 (D.take (m + 1))) x 0 bg (pa, pb) X.drew U0 (World.ownsRow.drew HI.out.r0) (HSw.out.srtO 0 (by omega)) (HSw.out.mem HXD.out) HI.out.size (by have := opn_len 0 (D.take (m + 1)); rw [List.length_take] at this; omega))
            have HE0 := Lib.hid hE0
            have HE1 := Lib.hid hE1
            clear hE0 hE1
            have kd : X.drew.cell? ⟨h9, 0, none⟩ = some (.slice A0 n0 c0) := HI.out.bx.cell 0
            have s0 : X.drew.cell? ⟨gN, 0, none⟩ = some (.int .i64 x) ∧ X.drew.cell? ⟨gN, 1, none⟩ = some (.int .i64 0) ∧ X.drew.cell? ⟨gN, 2, none⟩ = some (.bool bg) ∧ X.drew.cell? ⟨gN, 3, none⟩ = some (.int .i64 pa) ∧ X.drew.cell? ⟨gN, 4, none⟩ = some (.int .i64 pb) := ⟨oN.cell 0, oN.cell 1, oN.cell 2, oN.cell 3, oN.cell 4⟩
            refine wp_region_held_drew (S := fun w' => w'.cell? ⟨gN, 0, none⟩ = some (.int .i64 x) ∧ w'.cell? ⟨gN, 1, none⟩ = some (.int .i64 0) ∧ w'.cell? ⟨gN, 2, none⟩ = some (.bool bg) ∧ w'.cell? ⟨gN, 3, none⟩ = some (.int .i64 pa) ∧ w'.cell? ⟨gN, 4, none⟩ = some (.int .i64 pb)) (by kernel_rfl) s0 (fun hHeld => ?_)
            (refine takeD (i := 0) (d := 55) (oi := _) (v := ?_) rfl rfl (by kernel_rfl) (by kernel_rfl) (by kernel_rfl) (fun _ _ _ h => h) (Or.inl ⟨by rfl, ?_⟩) (by assumption) ?_; rotate_left; (focus ((intro w hSw; (try dsimp only at hSw); go_simp) <;> (with_reducible rfl))); (try simp only [Act.put, List.setIfInBounds_toArray, List.set_cons_zero, List.set_cons_succ]))
            (refine takeD (i := 1) (d := 56) (oi := _) (v := ?_) rfl rfl (by kernel_rfl) (by kernel_rfl) (by kernel_rfl) (fun _ _ _ h => h) (Or.inl ⟨by rfl, ?_⟩) (by assumption) ?_; rotate_left; (focus ((intro w hSw; (try dsimp only at hSw); go_simp) <;> (with_reducible rfl))); (try simp only [Act.put, List.setIfInBounds_toArray, List.set_cons_zero, List.set_cons_succ]))
            (refine takeD (i := 2) (d := 57) (oi := _) (v := ?_) rfl rfl (by kernel_rfl) (by kernel_rfl) (by kernel_rfl) (fun _ _ _ h => h) (Or.inl ⟨by rfl, ?_⟩) (by assumption) ?_; rotate_left; (focus ((intro w hSw; (try dsimp only at hSw); go_simp) <;> (with_reducible rfl))); (try simp only [Act.put, List.setIfInBounds_toArray, List.set_cons_zero, List.set_cons_succ]))
            (refine takeD (i := 3) (d := 58) (oi := _) (v := ?_) rfl rfl (by kernel_rfl) (by kernel_rfl) (by kernel_rfl) (fun _ _ _ h => h) (Or.inl ⟨by rfl, ?_⟩) (by assumption) ?_; rotate_left; (focus ((intro w hSw; (try dsimp only at hSw); go_simp) <;> (with_reducible rfl))); (try simp only [Act.put, List.setIfInBounds_toArray, List.set_cons_zero, List.set_cons_succ]))
            (refine takeD (i := 4) (d := 59) (oi := _) (v := ?_) rfl rfl (by kernel_rfl) (by kernel_rfl) (by kernel_rfl) (fun _ _ _ h => h) (Or.inl ⟨by rfl, ?_⟩) (by assumption) ?_; rotate_left; (focus ((intro w hSw; (try dsimp only at hSw); go_simp) <;> (with_reducible rfl))); (try simp only [Act.put, List.setIfInBounds_toArray, List.set_cons_zero, List.set_cons_succ]))
            (refine takeD (i := 6) (d := 61) (oi := _) (v := ?_) rfl rfl (by kernel_rfl) (by kernel_rfl) (by kernel_rfl) (fun _ _ _ h => h) (Or.inl ⟨by rfl, ?_⟩) (by assumption) ?_; rotate_left; (focus ((intro w hSw; (try dsimp only at hSw); go_simp) <;> (with_reducible rfl))); (try simp only [Act.put, List.setIfInBounds_toArray, List.set_cons_zero, List.set_cons_succ]))
            refine wpAnyH_ready (rs := [5]) (by kernel_rfl) (by simp) ?_
            refine AllReadyH.cons (o := _) rfl (fun K hK => ?_) AllReadyH.nil
            go_simp
            skip
            refine hK.out _ _ (by (try dsimp only); exact s0) (fun hHeld => ?_)
            clear hK
            (try simp only [Act.put, List.setIfInBounds_toArray, List.set_cons_zero, List.set_cons_succ])
            refine wpAnyH_ready (rs := [7]) (by kernel_rfl) (by simp) ?_
            refine AllReadyH.cons (o := _) rfl (fun K hK => ?_) AllReadyH.nil
            go_simp
            (go_at_call 78; refine HC.out.mono ?_; rintro e w5 ⟨v5, rfl, hl5, hg5, hv5⟩; have oN5 := Own.grown (show Own X.drew gN _ _ from oN) hg5 (own_apart (World.ownsRow.drew HI.out.r0) (show Own X.drew gN _ _ from oN) (by decide)); have s5 : w5.cell? ⟨gN, 0, none⟩ = some (.int .i64 x) ∧ w5.cell? ⟨gN, 1, none⟩ = some (.int .i64 0) ∧ w5.cell? ⟨gN, 2, none⟩ = some (.bool bg) ∧ w5.cell? ⟨gN, 3, none⟩ = some (.int .i64 pa) ∧ w5.cell? ⟨gN, 4, none⟩ = some (.int .i64 pb) := ⟨oN5.cell 0, oN5.cell 1, oN5.cell 2, oN5.cell 3, oN5.cell 4⟩; have o95 := (HI.out.lay0 (Below.drew (Below.refl _ _)) hg5 hv5).1; have k5 := o95.cell 0; have f5 := o95.free 0; have HN5 := Lib.hid (HI.out.store0 HV.out (Below.drew (Below.refl _ _)) hl5 hg5 hv5 HE0.out HE1.out); obtain ⟨A5, n5, c5, rfl⟩ := own_slice hl5; clear hl5 hg5 hv5; go_wp2_with fail)
            refine hK.out _ _ (by (try dsimp only); exact s5) (fun hHeld => ?_)
            clear hK
            (try simp only [Act.put, List.setIfInBounds_toArray, List.set_cons_zero, List.set_cons_succ])
            (refine takeD (i := 8) (d := 63) (oi := _) (v := ?_) rfl rfl (by kernel_rfl) (by kernel_rfl) (by kernel_rfl) (fun _ _ _ h => h) (Or.inl ⟨by rfl, ?_⟩) (by assumption) ?_; rotate_left; (focus ((intro w hSw; (try dsimp only at hSw); go_simp) <;> (with_reducible rfl))); (try simp only [Act.put, List.setIfInBounds_toArray, List.set_cons_zero, List.set_cons_succ]))
            have oNX := oN5.far (p := ⟨h9, 0, none⟩) HNE.out (.slice A5 n5 c5)
            refine wpAnyH_ready (rs := [9]) (by kernel_rfl) (by simp) ?_
            refine AllReadyH.cons (o := _) rfl (fun K hK => ?_) AllReadyH.nil
            go_simp
            skip
            refine hK.out _ _ (by (try dsimp only); exact ⟨oNX.cell 0, oNX.cell 1, oNX.cell 2, oNX.cell 3, oNX.cell 4⟩) (fun hHeld => ?_)
            clear hK
            (try simp only [Act.put, List.setIfInBounds_toArray, List.set_cons_zero, List.set_cons_succ])
            refine wpAnyH_done (by kernel_rfl) ?_ _
            go_wp2
            go_roundw
            case rel => exact ⟨m + 1 + 1, P, .slice A5 n5 c5, .slice A1 n1 c1, by omega, by go_num, by rw [hN.out]; exact HN5.out⟩
            case measure => simp [intOf]; omega
          · have hE1 : opn 1 (D.take (m + 1 + 1)) = (if bg = true then insP (pa, pb) (opn 1 (D.take (m + 1))) else remP (pa, pb) (opn 1 (D.take (m + 1)))) := (opn_step 1 HXD.out).trans (ostep_same _ _ _ _ _)
            have hE0 : opn 0 (D.take (m + 1 + 1)) = opn 0 (D.take (m + 1)) := (opn_step 0 HXD.out).trans (ostep_other (by decide) _ _ _ _)
            have HC := Lib.hid (pChg_any (.slice A1 n1 c1) (opn 1 (D.take (m + 1))) x 1 bg (pa, pb) X.drew U0 (World.ownsRow.drew HI.out.r1) (HSw.out.srtO 1 (by omega)) (HSw.out.mem HXD.out) HI.out.size (by have := opn_len 1 (D.take (m + 1)); rw [List.length_take] at this; omega))
            have HE0 := Lib.hid hE0
            have HE1 := Lib.hid hE1
            clear hE0 hE1
            have kd : X.drew.cell? ⟨h9, 1, none⟩ = some (.slice A1 n1 c1) := HI.out.bx.cell 1
            have s0 : X.drew.cell? ⟨gN, 0, none⟩ = some (.int .i64 x) ∧ X.drew.cell? ⟨gN, 1, none⟩ = some (.int .i64 1) ∧ X.drew.cell? ⟨gN, 2, none⟩ = some (.bool bg) ∧ X.drew.cell? ⟨gN, 3, none⟩ = some (.int .i64 pa) ∧ X.drew.cell? ⟨gN, 4, none⟩ = some (.int .i64 pb) := ⟨oN.cell 0, oN.cell 1, oN.cell 2, oN.cell 3, oN.cell 4⟩
            refine wp_region_held_drew (S := fun w' => w'.cell? ⟨gN, 0, none⟩ = some (.int .i64 x) ∧ w'.cell? ⟨gN, 1, none⟩ = some (.int .i64 1) ∧ w'.cell? ⟨gN, 2, none⟩ = some (.bool bg) ∧ w'.cell? ⟨gN, 3, none⟩ = some (.int .i64 pa) ∧ w'.cell? ⟨gN, 4, none⟩ = some (.int .i64 pb)) (by kernel_rfl) s0 (fun hHeld => ?_)
            (refine takeD (i := 0) (d := 55) (oi := _) (v := ?_) rfl rfl (by kernel_rfl) (by kernel_rfl) (by kernel_rfl) (fun _ _ _ h => h) (Or.inl ⟨by rfl, ?_⟩) (by assumption) ?_; rotate_left; (focus ((intro w hSw; (try dsimp only at hSw); go_simp) <;> (with_reducible rfl))); (try simp only [Act.put, List.setIfInBounds_toArray, List.set_cons_zero, List.set_cons_succ]))
            (refine takeD (i := 1) (d := 56) (oi := _) (v := ?_) rfl rfl (by kernel_rfl) (by kernel_rfl) (by kernel_rfl) (fun _ _ _ h => h) (Or.inl ⟨by rfl, ?_⟩) (by assumption) ?_; rotate_left; (focus ((intro w hSw; (try dsimp only at hSw); go_simp) <;> (with_reducible rfl))); (try simp only [Act.put, List.setIfInBounds_toArray, List.set_cons_zero, List.set_cons_succ]))
            (refine takeD (i := 2) (d := 57) (oi := _) (v := ?_) rfl rfl (by kernel_rfl) (by kernel_rfl) (by kernel_rfl) (fun _ _ _ h => h) (Or.inl ⟨by rfl, ?_⟩) (by assumption) ?_; rotate_left; (focus ((intro w hSw; (try dsimp only at hSw); go_simp) <;> (with_reducible rfl))); (try simp only [Act.put, List.setIfInBounds_toArray, List.set_cons_zero, List.set_cons_succ]))
            (refine takeD (i := 3) (d := 58) (oi := _) (v := ?_) rfl rfl (by kernel_rfl) (by kernel_rfl) (by kernel_rfl) (fun _ _ _ h => h) (Or.inl ⟨by rfl, ?_⟩) (by assumption) ?_; rotate_left; (focus ((intro w hSw; (try dsimp only at hSw); go_simp) <;> (with_reducible rfl))); (try simp only [Act.put, List.setIfInBounds_toArray, List.set_cons_zero, List.set_cons_succ]))
            (refine takeD (i := 4) (d := 59) (oi := _) (v := ?_) rfl rfl (by kernel_rfl) (by kernel_rfl) (by kernel_rfl) (fun _ _ _ h => h) (Or.inl ⟨by rfl, ?_⟩) (by assumption) ?_; rotate_left; (focus ((intro w hSw; (try dsimp only at hSw); go_simp) <;> (with_reducible rfl))); (try simp only [Act.put, List.setIfInBounds_toArray, List.set_cons_zero, List.set_cons_succ]))
            (refine takeD (i := 6) (d := 61) (oi := _) (v := ?_) rfl rfl (by kernel_rfl) (by kernel_rfl) (by kernel_rfl) (fun _ _ _ h => h) (Or.inl ⟨by rfl, ?_⟩) (by assumption) ?_; rotate_left; (focus ((intro w hSw; (try dsimp only at hSw); go_simp) <;> (with_reducible rfl))); (try simp only [Act.put, List.setIfInBounds_toArray, List.set_cons_zero, List.set_cons_succ]))
            refine wpAnyH_ready (rs := [5]) (by kernel_rfl) (by simp) ?_
            refine AllReadyH.cons (o := _) rfl (fun K hK => ?_) AllReadyH.nil
            go_simp
            skip
            refine hK.out _ _ (by (try dsimp only); exact s0) (fun hHeld => ?_)
            clear hK
            (try simp only [Act.put, List.setIfInBounds_toArray, List.set_cons_zero, List.set_cons_succ])
            refine wpAnyH_ready (rs := [7]) (by kernel_rfl) (by simp) ?_
            refine AllReadyH.cons (o := _) rfl (fun K hK => ?_) AllReadyH.nil
            go_simp
            (go_at_call 78; refine HC.out.mono ?_; rintro e w5 ⟨v5, rfl, hl5, hg5, hv5⟩; have oN5 := Own.grown (show Own X.drew gN _ _ from oN) hg5 (own_apart (World.ownsRow.drew HI.out.r1) (show Own X.drew gN _ _ from oN) (by decide)); have s5 : w5.cell? ⟨gN, 0, none⟩ = some (.int .i64 x) ∧ w5.cell? ⟨gN, 1, none⟩ = some (.int .i64 1) ∧ w5.cell? ⟨gN, 2, none⟩ = some (.bool bg) ∧ w5.cell? ⟨gN, 3, none⟩ = some (.int .i64 pa) ∧ w5.cell? ⟨gN, 4, none⟩ = some (.int .i64 pb) := ⟨oN5.cell 0, oN5.cell 1, oN5.cell 2, oN5.cell 3, oN5.cell 4⟩; have o95 := (HI.out.lay1 (Below.drew (Below.refl _ _)) hg5 hv5).1; have k5 := o95.cell 1; have f5 := o95.free 1; have HN5 := Lib.hid (HI.out.store1 HV.out (Below.drew (Below.refl _ _)) hl5 hg5 hv5 HE1.out HE0.out); obtain ⟨A5, n5, c5, rfl⟩ := own_slice hl5; clear hl5 hg5 hv5; go_wp2_with fail)
            refine hK.out _ _ (by (try dsimp only); exact s5) (fun hHeld => ?_)
            clear hK
            (try simp only [Act.put, List.setIfInBounds_toArray, List.set_cons_zero, List.set_cons_succ])
            (refine takeD (i := 8) (d := 63) (oi := _) (v := ?_) rfl rfl (by kernel_rfl) (by kernel_rfl) (by kernel_rfl) (fun _ _ _ h => h) (Or.inl ⟨by rfl, ?_⟩) (by assumption) ?_; rotate_left; (focus ((intro w hSw; (try dsimp only at hSw); go_simp) <;> (with_reducible rfl))); (try simp only [Act.put, List.setIfInBounds_toArray, List.set_cons_zero, List.set_cons_succ]))
            have oNX := oN5.far (p := ⟨h9, 1, none⟩) HNE.out (.slice A5 n5 c5)
            refine wpAnyH_ready (rs := [9]) (by kernel_rfl) (by simp) ?_
            refine AllReadyH.cons (o := _) rfl (fun K hK => ?_) AllReadyH.nil
            go_simp
            skip
            refine hK.out _ _ (by (try dsimp only); exact ⟨oNX.cell 0, oNX.cell 1, oNX.cell 2, oNX.cell 3, oNX.cell 4⟩) (fun hHeld => ?_)
            clear hK
            (try simp only [Act.put, List.setIfInBounds_toArray, List.set_cons_zero, List.set_cons_succ])
            refine wpAnyH_done (by kernel_rfl) ?_ _
            go_wp2
            go_roundw
            case rel => exact ⟨m + 1 + 1, P, .slice A0 n0 c0, .slice A5 n5 c5, by omega, by go_num, by rw [hN.out]; exact HN5.out⟩
            case measure => simp [intOf]; omega
    · have hd : ¬ (k : Int) < D.length := by omega
      obtain rfl : k = D.length := by omega
      have HX := Lib.hid HIW.out.rel
      go_wp2
      go_returns
      exact ⟨rfl, D, P, HSw.out, HX.out⟩
end Go.Proofs.YtnbeopkpkagjmaaGreat
