import Derived.Test.YtnbeopkpkagjmaaGreatRRa
import Derived.Test.YtnbeopkpkagjmaaGreatRU
import Derived.Deep.RegionHeld3
import Derived.WalkKit
import Derived.WalkSpells
import Derived.WalkLawsBesides
import Derived.Deep.QuietTactic
import Derived.BigQuiet
import Derived.Handy
import Derived.Lib.Hide
import Derived.Test.YtnbeopkpkagjmaaGreatRLe
/-
  Contract of the reference's combinations. Conditions: at most 2000 rectangles. (Written by mkRgRc.py.)
-/
namespace Go.Proofs.YtnbeopkpkagjmaaGreat
set_option maxRecDepth 100000
set_option linter.unusedVariables false
set_option linter.unusedSimpArgs false
open Go.RowKit

set_option maxRecDepth 100000 in
set_option maxHeartbeats 12800000 in
theorem rCombR_any (kd : Int) (f : Bool → Bool → Bool) (hk : Knd kd f) (u v : Value) (a b : List Rc) (w : World) (L L2 : Nat) (hu : RdR w L w.heap.size u a) (hv : RdR w L2 w.heap.size v b) (la : a.length ≤ 2000) (lb : b.length ≤ 2000) (lc : (cmbR f a b).length ≤ 500000) :
    Calls Tryz.prog 37 #[.int .i64 kd, u, v] w (RetRcs w (cmbR f a b)) := by
  have hu0 := hu
  have hv0 := hv
  obtain ⟨Au, cu, rfl, _, _⟩ := hu
  obtain ⟨Av, cv, rfl, _, _⟩ := hv
  have HS := Lib.hid (fun (W : World) (t : Int) (hb : Below w.heap.size w W) => rSlcK_any kd f hk (.slice Au a.length cu) (.slice Av b.length cv) a b t W L L2 (hu0.step hb (Nat.le_refl _)) (hv0.step hb (Nat.le_refl _)) (by omega) (by omega))
  go_enter Tryz.func37, Tryz.ntmps37
  go_wp2_with (first
    | (at_builtin; refine append_rdR _ rfl _ _ rfl w.heap.size _ [] rfl (own_nilR _ _) L w.heap.size _ a _ _ rfl hu0 ?_ ?_ ?_; (focus (simp; omega)); (focus go_size); intro v2 w2 hown2 hb2)
    | (at_builtin; rw [List.nil_append] at hown2; refine append_rdR _ rfl _ _ rfl w.heap.size _ a rfl hown2 L2 w.heap.size _ b _ _ rfl (hv0.below hb2) ?_ ?_ ?_; (focus omega); (focus (exact hb2.size)); intro v3 w3 hown3 hb3))
  have B3 := hb2.trans hb3
  have HT := Lib.hid (rTimes_any v3 (a ++ b) w3 _ (RdR.of_own hown3 (by rw [List.length_append]; omega)) (by rw [List.length_append]; omega))
  have hpl : (ptsR (a ++ b)).length ≤ 2 * (a.length + b.length) := by
    have h1 := pts_len (sysL (a ++ b))
    have h2 := sysL_len (a ++ b)
    rw [List.length_append] at h2
    show (pts (sysL (a ++ b))).length ≤ _
    omega
  obtain ⟨A3, n3, c3, rfl⟩ : ∃ A3 n3 c3, v3 = .slice A3 n3 c3 := by
    rcases own_fit hown3 with ⟨h0, _⟩ | ⟨g, c, h0, _, _⟩
    · exact ⟨_, _, _, h0⟩
    · exact ⟨_, _, _, h0⟩
  clear hown3 hown2 hb2 hb3
  go_wp2_with fail
  with_reducible refine HT.out.mono ?_
  rintro e w4 ⟨vp, rfl, rp, hb4⟩
  have hstart := RunA.start f a b
  generalize ptsR (a ++ b) = P at *
  have HST := Lib.hid hstart
  have HrP0 := Lib.hid (rp.more (Nat.le_refl _) B3.size)
  obtain ⟨AP, cP, rfl, _, _⟩ := rp
  have B4 := B3.trans (hb4.mono B3.size)
  have zP := B4.size
  obtain ⟨UP, hUP⟩ : ∃ UP, UP = w4.heap.size := ⟨_, rfl⟩
  rw [← hUP] at HrP0 zP
  clear HT hb4 B3 hstart
  go_wp2
  go_loopw [9, 10] (fun o i wr => ∃ (m : Nat) (X : List Rc), i = .int .i64 m ∧ m ≤ P.length ∧ Hid (RunA f a b P X m) ∧ Hid (wr.ownsRow w.heap.size 35 4 o X.length (flatR X)) ∧ (∀ g, o.ownBlock = some g → UP ≤ g) ∧ Hid (RdI wr w.heap.size UP (.slice AP P.length cP) P) ∧ UP ≤ wr.heap.size ∧ Below w.heap.size w wr) (fun _ i _ => P.length + 1 - (intOf i).toNat)
  case atStart => exact ⟨0, [], rfl, by omega, HST, Lib.hid (own_nilR _ _), fun g hg => by simp [Value.ownBlock] at hg, HrP0, by omega, B4⟩
  case round =>
    obtain ⟨m, X, rfl, hmP, HRA, HO, hob, HrP, hUW, BW⟩ := hrel
    clear HST HrP0 B4
    have i1 : IntKind.i64.wrap ((m : Int) + 1) = (m : Int) + 1 := IntWalk.i64_in _ (by omega)
    by_cases h1 : m + 1 < P.length
    · have hxm := List.getElem?_eq_getElem (show m < P.length by omega)
      generalize P[m] = x at hxm
      have HXm := Lib.hid hxm
      obtain ⟨adp, rfl, _, hUp, c0⟩ := HrP.out.at hxm
      have i2 : (0 : Int) ≤ (m : Int) := by omega
      have i3 : (m : Int) < (P.length : Int) := by omega
      have i4 : (m : Int) + 1 < (P.length : Int) := by omega
      have HC := Lib.hid (HS.out wr x BW)
      generalize hSe : slcC f a b x = S at *
      have HSe := Lib.hid hSe
      clear hSe hxm
      obtain ⟨A9, n9, c9, rfl⟩ := own_slice HO.out
      go_wp2_with fail
      with_reducible refine HC.out.mono ?_
      rintro e w1 ⟨vs, rfl, rs, hb1⟩
      obtain ⟨Ls, hLs⟩ : ∃ Ls, Ls = wr.heap.size := ⟨_, rfl⟩
      rw [← hLs] at rs hb1
      have z1 : Ls ≤ w1.heap.size := by have := hb1.size; omega
      have HrS1 := Lib.hid rs
      obtain ⟨As, cs, rfl, _, _⟩ := rs
      have HrP1 := Lib.hid (HrP.out.below (hb1.mono (by omega)))
      have hob2 : ∀ g, (Value.slice A9 n9 c9).ownBlock = some g → g < Ls := fun g hg => by have := (World.ownsRow.lt HO.out g hg).2; omega
      have HO1 := Lib.hid (own_below HO.out (show Below wr.heap.size wr w1 by rw [← hLs]; exact hb1))
      have BW1 := BW.trans (hb1.mono (by have := BW.size; omega))
      have hSl : S.length ≤ 20000 := by
        rw [← HSe.out]
        have h1 := comb_len f (atS a x) (atS b x)
        have h2 := atS_len a x
        have h3 := atS_len b x
        show (comb f (atS a x) (atS b x)).length ≤ _
        omega
      clear HC HO hb1 c0 HrP
      go_wp2
      go_loopw [12] (fun k wq => ∃ kk : Nat, k = .int .i64 kk ∧ m < kk ∧ kk < P.length ∧ Hid (∀ j y, m < j → j < kk → P[j]? = some y → slcC f a b y = S) ∧ Below w1.heap.size w1 wq) (fun k _ => P.length - (intOf k).toNat)
      case atStart => exact ⟨m + 1, by go_num, by omega, h1, Lib.hid (fun j y h2 h3 _ => by omega), Below.refl _ _⟩
      case round =>
        obtain ⟨kk, rfl, hmk, hkP, HM, B15⟩ := hrel
        have hzk := List.getElem?_eq_getElem hkP
        generalize P[kk] = z at hzk
        have HZ := Lib.hid hzk
        have i5 : IntKind.i64.wrap ((kk : Int) + 1) = (kk : Int) + 1 := IntWalk.i64_in _ (by omega)
        by_cases h2 : kk + 1 < P.length
        · have i6 : (kk : Int) + 1 < (P.length : Int) := by omega
          obtain ⟨_, e1, _, _, c0⟩ := (HrP1.out.below (B15.mono (by omega))).at hzk
          injection e1 with e1
          subst e1
          have i7 : (0 : Int) ≤ (kk : Int) := by omega
          have i8 : (kk : Int) < (P.length : Int) := by omega
          have HC := Lib.hid (HS.out wr z (BW1.trans (B15.mono BW1.size)))
          clear hzk
          go_wp2_with fail
          with_reducible refine HC.out.mono ?_
          rintro e w5 ⟨vy, rfl, ry, hb5⟩
          have HRy := Lib.hid ry
          have B25 := B15.trans (hb5.mono B15.size)
          have HSm := Lib.hid (sameP_any vy (.slice As S.length cs) _ S w5 _ _ HRy.out (((HrS1.out.below B25).more B25.size (Nat.le_refl _))))
          clear HC ry c0
          go_wp2_with fail
          with_reducible refine HSm.out.mono ?_
          rintro e w6 ⟨rfl, hb6⟩
          have B26 := B25.trans (hb6.mono B25.size)
          clear HSm HRy hb5 hb6 B25 B15
          have B15 := B26
          clear B26
          by_cases hsm : slcC f a b z = S
          · have hsd : decide (slcC f a b z = S) = true := decide_eq_true hsm
            have HM2 := Lib.hid (fun j y (h3 : m < j) (h4 : j < kk + 1) (h5 : P[j]? = some y) => (by
              by_cases h6 : j = kk
              · subst h6
                have e := HZ.out
                rw [e] at h5
                injection h5 with h5
                rw [← h5]; exact hsm
              · exact HM.out j y h3 (by omega) h5 : slcC f a b y = S))
            clear hsm
            go_wp2
            go_roundw
            case rel => exact ⟨kk + 1, by go_num, by omega, h2, HM2, B15⟩
            case measure => simp [intOf]; omega
          · have hsd : decide (slcC f a b z = S) = false := decide_eq_false hsm
            have HR2 := Lib.hid (HRA.out.next hmk HXm.out HZ.out HSe.out HM.out (.inr hsm))
            clear hsm
            have HrPz := Lib.hid (HrP1.out.below (B15.mono (by omega)))
            have HrSz := Lib.hid (HrS1.out.below B15)
            have HOz := Lib.hid (own_below HO1.out B15)
            have BWz := BW1.trans (B15.mono BW1.size)
            have zBz := B15.size
            go_wp2
            go_loopw [9, 13] (fun o n wq => ∃ q : Nat, q ≤ S.length ∧ n = .int .i64 q ∧ Hid (wq.ownsRow w.heap.size 35 4 o (X ++ strR (x, z) (S.take q)).length (flatR (X ++ strR (x, z) (S.take q)))) ∧ (∀ g, o.ownBlock = some g → UP ≤ g ∧ (g < Ls ∨ w1.heap.size ≤ g)) ∧ Hid (RdI wq w.heap.size UP (.slice (some adp) P.length cP) P) ∧ Hid (RdP wq Ls w1.heap.size (.slice As S.length cs) S) ∧ w1.heap.size ≤ wq.heap.size ∧ Below w.heap.size w wq) (fun _ n _ => S.length - (intOf n).toNat)
            case atStart => exact ⟨0, by omega, rfl, Lib.hid (by have h := HOz.out; simpa [strR] using h), fun g hg => ⟨hob g hg, .inl (hob2 g hg)⟩, HrPz, HrSz, zBz, BWz⟩
            case round =>
              obtain ⟨q, hq, rfl, HO3, ho3, HrP3, HrS3, zW3, BW3⟩ := hrel
              clear HOz HrPz HrSz BWz zBz
              by_cases hqs : q < S.length
              · have hp := List.getElem?_eq_getElem hqs
                generalize S[q] = p at hp
                obtain ⟨p1, p2⟩ := p
                have hST := strR_step (q := (x, z)) hp
                obtain ⟨asl, rfl, hLs, hUs, c0, c1⟩ := HrS3.out.at hp
                obtain ⟨_, e1, hLp, hUp, c2⟩ := HrP3.out.at HXm.out
                injection e1 with e1
                subst e1
                obtain ⟨_, e1, _, _, c3⟩ := HrP3.out.at HZ.out
                injection e1 with e1
                subst e1
                dsimp only at c0 c1
                have i2 : (0 : Int) ≤ (q : Int) := by omega
                have i3 : (q : Int) < (S.length : Int) := by omega
                have i4 : (0 : Int) ≤ (m : Int) := by omega
                have i5 : (m : Int) < (P.length : Int) := by omega
                have i6 : (0 : Int) ≤ (kk : Int) := by omega
                have i7 : (kk : Int) < (P.length : Int) := by omega
                have hXl := HR2.out.len
                rw [List.length_append, strR_len] at hXl
                have hXq : (X ++ strR (x, z) (S.take q)).length ≤ 1000000 := by rw [List.length_append, strR_len, List.length_take]; omega
                obtain ⟨A9, n9, c9, rfl⟩ := own_slice HO3.out
                have hzb := BW3.size
                have bAL : Below wr.heap.size wr (wr.drew.alloc (.cells #[.int .i64 p1, .int .i64 p2, .int .i64 x, .int .i64 z] 35)) := (Below.drew (Below.refl _ _)).alloc (Nat.le_refl _) _
                have HSB := Lib.hid (fun (W : World) (hb : Below wr.heap.size wr W) => (⟨(hb.cell (p := asl.add (q * 2)) (by rw [add_block]; omega)).trans c0, (hb.cell (p := ⟨(asl.add (q * 2)).block, (asl.add (q * 2)).off + 1, none⟩) (by show (asl.add (q * 2)).block < _; rw [add_block]; omega)).trans c1, (hb.cell (p := adp.add m) (by rw [add_block]; omega)).trans c2, (hb.cell (p := adp.add kk) (by rw [add_block]; omega)).trans c3⟩ : W.cell? (asl.add (q * 2)) = some (.int .i64 p1) ∧ W.cell? ⟨(asl.add (q * 2)).block, (asl.add (q * 2)).off + 1, none⟩ = some (.int .i64 p2) ∧ W.cell? (adp.add m) = some (.int .i64 x) ∧ W.cell? (adp.add kk) = some (.int .i64 z)))
                have s0 := HSB.out wr.drew (Below.drew (Below.refl _ _))
                obtain ⟨v8, w8, hr8, hl8, hg8, hv8⟩ := append_run_rcs (wr.drew.alloc (.cells #[.int .i64 p1, .int .i64 p2, .int .i64 x, .int .i64 z] 35)) w.heap.size (.slice A9 n9 c9) _ (World.ownsRow.alloc (World.ownsRow.drew HO3.out) _) _ _ _ [((p1, p2), (x, z))] _ _ (rdR_lit wr.drew #[.int .i64 p1, .int .i64 p2, .int .i64 x, .int .i64 z] [((p1, p2), (x, z))] 1 rfl rfl (by decide)) (by simp only [List.length_singleton]; omega) (by have := bAL.size; omega)
                obtain ⟨A8, n8, c8, rfl⟩ : ∃ A8 n8 c8, v8 = .slice A8 n8 c8 := by
                  rcases own_fit hl8 with ⟨hv0, _⟩ | ⟨g, c, hv0, _, _⟩
                  · exact ⟨_, _, _, hv0⟩
                  · exact ⟨_, _, _, hv0⟩
                have s1 := HSB.out _ bAL
                have zAL := bAL.size
                have G8 : wr.grownBy w8 (Value.slice A9 n9 c9).ownBlock := World.grownBy.trans (grown_of_below bAL _) hg8
                have s8 : w8.cell? (asl.add (q * 2)) = some (.int .i64 p1) ∧ w8.cell? ⟨(asl.add (q * 2)).block, (asl.add (q * 2)).off + 1, none⟩ = some (.int .i64 p2) ∧ w8.cell? (adp.add m) = some (.int .i64 x) ∧ w8.cell? (adp.add kk) = some (.int .i64 z) := ⟨(World.grownBy.cell_far G8 (asl.add (q * 2)) (by rw [add_block]; omega) (by rw [add_block]; intro e; have := ho3 _ e.symm; omega)).trans c0, (World.grownBy.cell_far G8 ⟨(asl.add (q * 2)).block, (asl.add (q * 2)).off + 1, none⟩ (by show (asl.add (q * 2)).block < _; rw [add_block]; omega) (by show some (asl.add (q * 2)).block ≠ _; rw [add_block]; intro e; have := ho3 _ e.symm; omega)).trans c1, (World.grownBy.cell_far G8 (adp.add m) (by rw [add_block]; omega) (by rw [add_block]; intro e; have := ho3 _ e.symm; omega)).trans c2, (World.grownBy.cell_far G8 (adp.add kk) (by rw [add_block]; omega) (by rw [add_block]; intro e; have := ho3 _ e.symm; omega)).trans c3⟩
                have HL8 := Lib.hid (show w8.ownsRow w.heap.size 35 4 (.slice A8 n8 c8) (X ++ strR (x, z) (S.take (q + 1))).length (flatR (X ++ strR (x, z) (S.take (q + 1)))) by rw [hST, ← List.append_assoc]; exact hl8)
                have HrP8 := Lib.hid (HrP3.out.grownFar G8 (by omega) (fun g hg => .inr (ho3 g hg).1))
                have HrS8 := Lib.hid (HrS3.out.grownFar G8 zW3 (fun g hg => (ho3 g hg).2))
                have B8 := Lib.hid (BW3.trans (below_grown G8 (fun g hg => (World.ownsRow.lt HO3.out g hg).1) hzb))
                have ho8 : ∀ g, (Value.slice A8 n8 c8).ownBlock = some g → UP ≤ g ∧ (g < Ls ∨ w1.heap.size ≤ g) := fun g hg => by
                  rcases hv8 g hg with h | h
                  · exact ho3 g h
                  · exact ⟨by omega, .inr (by omega)⟩
                have z8 := G8.size
                have HRUN := Lib.hid hr8
                clear hr8 hl8 hg8 hv8 G8 hST hp hXl
                go_wp2
                refine wp_region_held_drew (S := fun w' => w'.cell? (asl.add (q * 2)) = some (.int .i64 p1) ∧ w'.cell? ⟨(asl.add (q * 2)).block, (asl.add (q * 2)).off + 1, none⟩ = some (.int .i64 p2) ∧ w'.cell? (adp.add m) = some (.int .i64 x) ∧ w'.cell? (adp.add kk) = some (.int .i64 z)) (by kernel_rfl) s0 (fun hHeld => ?_)
                (refine takeD (i := 0) (d := 62) (oi := _) (v := ?_) rfl rfl (by kernel_rfl) (by kernel_rfl) (by kernel_rfl) (fun _ _ _ h => h) (Or.inl ⟨by rfl, ?_⟩) (by assumption) ?_; rotate_left; (focus ((intro w hSw; (try dsimp only at hSw); go_simp) <;> (with_reducible rfl))); (try simp only [Act.put, List.setIfInBounds_toArray, List.set_cons_zero, List.set_cons_succ]))
                (refine takeD (i := 1) (d := 63) (oi := _) (v := ?_) rfl rfl (by kernel_rfl) (by kernel_rfl) (by kernel_rfl) (fun _ _ _ h => h) (Or.inl ⟨by rfl, ?_⟩) (by assumption) ?_; rotate_left; (focus ((intro w hSw; (try dsimp only at hSw); go_simp) <;> (with_reducible rfl))); (try simp only [Act.put, List.setIfInBounds_toArray, List.set_cons_zero, List.set_cons_succ]))
                (refine takeD (i := 2) (d := 64) (oi := _) (v := ?_) rfl rfl (by kernel_rfl) (by kernel_rfl) (by kernel_rfl) (fun _ _ _ h => h) (Or.inl ⟨by rfl, ?_⟩) (by assumption) ?_; rotate_left; (focus ((intro w hSw; (try dsimp only at hSw); go_simp) <;> (with_reducible rfl))); (try simp only [Act.put, List.setIfInBounds_toArray, List.set_cons_zero, List.set_cons_succ]))
                (refine takeD (i := 3) (d := 65) (oi := _) (v := ?_) rfl rfl (by kernel_rfl) (by kernel_rfl) (by kernel_rfl) (fun _ _ _ h => h) (Or.inl ⟨by rfl, ?_⟩) (by assumption) ?_; rotate_left; (focus ((intro w hSw; (try dsimp only at hSw); go_simp) <;> (with_reducible rfl))); (try simp only [Act.put, List.setIfInBounds_toArray, List.set_cons_zero, List.set_cons_succ]))
                (refine takeD (i := 4) (d := 66) (oi := _) (v := ?_) rfl rfl (by kernel_rfl) (by kernel_rfl) (by kernel_rfl) (fun _ _ _ h => h) (Or.inl ⟨by rfl, ?_⟩) (by assumption) ?_; rotate_left; (focus ((intro w hSw; (try dsimp only at hSw); go_simp) <;> (with_reducible rfl))); (try simp only [Act.put, List.setIfInBounds_toArray, List.set_cons_zero, List.set_cons_succ]))
                (refine takeD (i := 5) (d := 67) (oi := _) (v := ?_) rfl rfl (by kernel_rfl) (by kernel_rfl) (by kernel_rfl) (fun _ _ _ h => h) (Or.inl ⟨by rfl, ?_⟩) (by assumption) ?_; rotate_left; (focus ((intro w hSw; (try dsimp only at hSw); go_simp) <;> (with_reducible rfl))); (try simp only [Act.put, List.setIfInBounds_toArray, List.set_cons_zero, List.set_cons_succ]))
                (refine takeD (i := 6) (d := 68) (oi := _) (v := ?_) rfl rfl (by kernel_rfl) (by kernel_rfl) (by kernel_rfl) (fun _ _ _ h => h) (Or.inl ⟨by rfl, ?_⟩) (by assumption) ?_; rotate_left; (focus ((intro w hSw; (try dsimp only at hSw); go_simp) <;> (with_reducible rfl))); (try simp only [Act.put, List.setIfInBounds_toArray, List.set_cons_zero, List.set_cons_succ]))
                (refine takeD (i := 7) (d := 69) (oi := _) (v := ?_) rfl rfl (by kernel_rfl) (by kernel_rfl) (by kernel_rfl) (fun _ _ _ h => h) (Or.inl ⟨by rfl, ?_⟩) (by assumption) ?_; rotate_left; (focus ((intro w hSw; (try dsimp only at hSw); go_simp) <;> (with_reducible rfl))); (try simp only [Act.put, List.setIfInBounds_toArray, List.set_cons_zero, List.set_cons_succ]))
                (refine takeD (i := 8) (d := 70) (oi := _) (v := ?_) rfl rfl (by kernel_rfl) (by kernel_rfl) (by kernel_rfl) (fun _ _ _ h => h) (Or.inl ⟨by rfl, ?_⟩) (by assumption) ?_; rotate_left; (focus ((intro w hSw; (try dsimp only at hSw); go_simp) <;> (with_reducible rfl))); (try simp only [Act.put, List.setIfInBounds_toArray, List.set_cons_zero, List.set_cons_succ]))
                (refine takeD (i := 9) (d := 71) (oi := _) (v := ?_) rfl rfl (by kernel_rfl) (by kernel_rfl) (by kernel_rfl) (fun _ _ _ h => h) (Or.inl ⟨by rfl, ?_⟩) (by assumption) ?_; rotate_left; (focus ((intro w hSw; (try dsimp only at hSw); go_simp) <;> (with_reducible rfl))); (try simp only [Act.put, List.setIfInBounds_toArray, List.set_cons_zero, List.set_cons_succ]))
                (refine takeD (i := 10) (d := 72) (oi := _) (v := ?_) rfl rfl (by kernel_rfl) (by kernel_rfl) (by kernel_rfl) (fun _ _ _ h => h) (Or.inl ⟨by rfl, ?_⟩) (by assumption) ?_; rotate_left; (focus ((intro w hSw; (try dsimp only at hSw); go_simp) <;> (with_reducible rfl))); (try simp only [Act.put, List.setIfInBounds_toArray, List.set_cons_zero, List.set_cons_succ]))
                (refine takeD (i := 11) (d := 73) (oi := _) (v := ?_) rfl rfl (by kernel_rfl) (by kernel_rfl) (by kernel_rfl) (fun _ _ _ h => h) (Or.inl ⟨by rfl, ?_⟩) (by assumption) ?_; rotate_left; (focus ((intro w hSw; (try dsimp only at hSw); go_simp) <;> (with_reducible rfl))); (try simp only [Act.put, List.setIfInBounds_toArray, List.set_cons_zero, List.set_cons_succ]))
                (refine takeD (i := 12) (d := 74) (oi := _) (v := ?_) rfl rfl (by kernel_rfl) (by kernel_rfl) (by kernel_rfl) (fun _ _ _ h => h) (Or.inl ⟨by rfl, ?_⟩) (by assumption) ?_; rotate_left; (focus ((intro w hSw; (try dsimp only at hSw); go_simp) <;> (with_reducible rfl))); (try simp only [Act.put, List.setIfInBounds_toArray, List.set_cons_zero, List.set_cons_succ]))
                (refine takeD (i := 13) (d := 75) (oi := _) (v := ?_) rfl rfl (by kernel_rfl) (by kernel_rfl) (by kernel_rfl) (fun _ _ _ h => h) (Or.inl ⟨by rfl, ?_⟩) (by assumption) ?_; rotate_left; (focus ((intro w hSw; (try dsimp only at hSw); go_simp) <;> (with_reducible rfl))); (try simp only [Act.put, List.setIfInBounds_toArray, List.set_cons_zero, List.set_cons_succ]))
                (refine takeD (i := 14) (d := 76) (oi := _) (v := ?_) rfl rfl (by kernel_rfl) (by kernel_rfl) (by kernel_rfl) (fun _ _ _ h => h) (Or.inl ⟨by rfl, ?_⟩) (by assumption) ?_; rotate_left; (focus ((intro w hSw; (try dsimp only at hSw); go_simp) <;> (with_reducible rfl))); (try simp only [Act.put, List.setIfInBounds_toArray, List.set_cons_zero, List.set_cons_succ]))
                refine wpAnyH_ready (rs := [15]) (by kernel_rfl) (by simp) ?_
                refine AllReadyH.cons (o := _) rfl (fun K hK => ?_) AllReadyH.nil
                go_simp
                skip
                refine hK.out _ _ (by (try dsimp only); exact s1) (fun hHeld => ?_)
                clear hK
                (try simp only [Act.put, List.setIfInBounds_toArray, List.set_cons_zero, List.set_cons_succ])
                refine wpAnyH_ready (rs := [16]) (by kernel_rfl) (by simp) ?_
                refine AllReadyH.cons (o := _) rfl (fun K hK => ?_) AllReadyH.nil
                refine step_append_eq rfl _ _ _ _ rfl (.slice A9 n9 c9) (.slice (some ⟨wr.drew.heap.size, 0, none⟩) 1 1) rfl rfl (HRUN.out _) ?_
                refine hK.out _ _ s8 (fun hHeld => ?_)
                clear hK
                (try simp only [Act.put, List.setIfInBounds_toArray, List.set_cons_zero, List.set_cons_succ])
                (refine takeD (i := 17) (d := 9) (oi := _) (v := ?_) rfl rfl (by kernel_rfl) (by kernel_rfl) (by kernel_rfl) (fun _ _ _ h => h) (Or.inl ⟨by rfl, ?_⟩) (by assumption) ?_; rotate_left; (focus ((intro w hSw; (try dsimp only at hSw); go_simp) <;> (with_reducible rfl))); (try simp only [Act.put, List.setIfInBounds_toArray, List.set_cons_zero, List.set_cons_succ]))
                refine wpAnyH_done (by kernel_rfl) ?_ _
                go_wp2
                go_roundw
                case rel => exact ⟨q + 1, by omega, by go_num, HL8, ho8, HrP8, HrS8, by omega, B8.out⟩
                case measure => simp [intOf]; omega
              · have hqd : ¬ (q : Int) < S.length := by omega
                have hST : S.take q = S := List.take_of_length_le (by omega)
                rw [hST] at HO3
                go_wp2
                go_roundw
                case rel => exact ⟨kk, X ++ strR (x, z) S, rfl, by omega, HR2, HO3, fun g hg => (ho3 g hg).1, HrP3, by omega, BW3⟩
                case measure => simp [intOf]; omega
        · have i6 : ¬ ((kk : Int) + 1 < (P.length : Int)) := by omega
          have HR2 := Lib.hid (HRA.out.next hmk HXm.out HZ.out HSe.out HM.out (.inl (by omega)))
          clear hzk
          have HrPz := Lib.hid (HrP1.out.below (B15.mono (by omega)))
          have HrSz := Lib.hid (HrS1.out.below B15)
          have HOz := Lib.hid (own_below HO1.out B15)
          have BWz := BW1.trans (B15.mono BW1.size)
          have zBz := B15.size
          go_wp2
          go_loopw [9, 13] (fun o n wq => ∃ q : Nat, q ≤ S.length ∧ n = .int .i64 q ∧ Hid (wq.ownsRow w.heap.size 35 4 o (X ++ strR (x, z) (S.take q)).length (flatR (X ++ strR (x, z) (S.take q)))) ∧ (∀ g, o.ownBlock = some g → UP ≤ g ∧ (g < Ls ∨ w1.heap.size ≤ g)) ∧ Hid (RdI wq w.heap.size UP (.slice (some adp) P.length cP) P) ∧ Hid (RdP wq Ls w1.heap.size (.slice As S.length cs) S) ∧ w1.heap.size ≤ wq.heap.size ∧ Below w.heap.size w wq) (fun _ n _ => S.length - (intOf n).toNat)
          case atStart => exact ⟨0, by omega, rfl, Lib.hid (by have h := HOz.out; simpa [strR] using h), fun g hg => ⟨hob g hg, .inl (hob2 g hg)⟩, HrPz, HrSz, zBz, BWz⟩
          case round =>
            obtain ⟨q, hq, rfl, HO3, ho3, HrP3, HrS3, zW3, BW3⟩ := hrel
            clear HOz HrPz HrSz BWz zBz
            by_cases hqs : q < S.length
            · have hp := List.getElem?_eq_getElem hqs
              generalize S[q] = p at hp
              obtain ⟨p1, p2⟩ := p
              have hST := strR_step (q := (x, z)) hp
              obtain ⟨asl, rfl, hLs, hUs, c0, c1⟩ := HrS3.out.at hp
              obtain ⟨_, e1, hLp, hUp, c2⟩ := HrP3.out.at HXm.out
              injection e1 with e1
              subst e1
              obtain ⟨_, e1, _, _, c3⟩ := HrP3.out.at HZ.out
              injection e1 with e1
              subst e1
              dsimp only at c0 c1
              have i2 : (0 : Int) ≤ (q : Int) := by omega
              have i3 : (q : Int) < (S.length : Int) := by omega
              have i4 : (0 : Int) ≤ (m : Int) := by omega
              have i5 : (m : Int) < (P.length : Int) := by omega
              have i6 : (0 : Int) ≤ (kk : Int) := by omega
              have i7 : (kk : Int) < (P.length : Int) := by omega
              have hXl := HR2.out.len
              rw [List.length_append, strR_len] at hXl
              have hXq : (X ++ strR (x, z) (S.take q)).length ≤ 1000000 := by rw [List.length_append, strR_len, List.length_take]; omega
              obtain ⟨A9, n9, c9, rfl⟩ := own_slice HO3.out
              have hzb := BW3.size
              have bAL : Below wr.heap.size wr (wr.drew.alloc (.cells #[.int .i64 p1, .int .i64 p2, .int .i64 x, .int .i64 z] 35)) := (Below.drew (Below.refl _ _)).alloc (Nat.le_refl _) _
              have HSB := Lib.hid (fun (W : World) (hb : Below wr.heap.size wr W) => (⟨(hb.cell (p := asl.add (q * 2)) (by rw [add_block]; omega)).trans c0, (hb.cell (p := ⟨(asl.add (q * 2)).block, (asl.add (q * 2)).off + 1, none⟩) (by show (asl.add (q * 2)).block < _; rw [add_block]; omega)).trans c1, (hb.cell (p := adp.add m) (by rw [add_block]; omega)).trans c2, (hb.cell (p := adp.add kk) (by rw [add_block]; omega)).trans c3⟩ : W.cell? (asl.add (q * 2)) = some (.int .i64 p1) ∧ W.cell? ⟨(asl.add (q * 2)).block, (asl.add (q * 2)).off + 1, none⟩ = some (.int .i64 p2) ∧ W.cell? (adp.add m) = some (.int .i64 x) ∧ W.cell? (adp.add kk) = some (.int .i64 z)))
              have s0 := HSB.out wr.drew (Below.drew (Below.refl _ _))
              obtain ⟨v8, w8, hr8, hl8, hg8, hv8⟩ := append_run_rcs (wr.drew.alloc (.cells #[.int .i64 p1, .int .i64 p2, .int .i64 x, .int .i64 z] 35)) w.heap.size (.slice A9 n9 c9) _ (World.ownsRow.alloc (World.ownsRow.drew HO3.out) _) _ _ _ [((p1, p2), (x, z))] _ _ (rdR_lit wr.drew #[.int .i64 p1, .int .i64 p2, .int .i64 x, .int .i64 z] [((p1, p2), (x, z))] 1 rfl rfl (by decide)) (by simp only [List.length_singleton]; omega) (by have := bAL.size; omega)
              obtain ⟨A8, n8, c8, rfl⟩ : ∃ A8 n8 c8, v8 = .slice A8 n8 c8 := by
                rcases own_fit hl8 with ⟨hv0, _⟩ | ⟨g, c, hv0, _, _⟩
                · exact ⟨_, _, _, hv0⟩
                · exact ⟨_, _, _, hv0⟩
              have s1 := HSB.out _ bAL
              have zAL := bAL.size
              have G8 : wr.grownBy w8 (Value.slice A9 n9 c9).ownBlock := World.grownBy.trans (grown_of_below bAL _) hg8
              have s8 : w8.cell? (asl.add (q * 2)) = some (.int .i64 p1) ∧ w8.cell? ⟨(asl.add (q * 2)).block, (asl.add (q * 2)).off + 1, none⟩ = some (.int .i64 p2) ∧ w8.cell? (adp.add m) = some (.int .i64 x) ∧ w8.cell? (adp.add kk) = some (.int .i64 z) := ⟨(World.grownBy.cell_far G8 (asl.add (q * 2)) (by rw [add_block]; omega) (by rw [add_block]; intro e; have := ho3 _ e.symm; omega)).trans c0, (World.grownBy.cell_far G8 ⟨(asl.add (q * 2)).block, (asl.add (q * 2)).off + 1, none⟩ (by show (asl.add (q * 2)).block < _; rw [add_block]; omega) (by show some (asl.add (q * 2)).block ≠ _; rw [add_block]; intro e; have := ho3 _ e.symm; omega)).trans c1, (World.grownBy.cell_far G8 (adp.add m) (by rw [add_block]; omega) (by rw [add_block]; intro e; have := ho3 _ e.symm; omega)).trans c2, (World.grownBy.cell_far G8 (adp.add kk) (by rw [add_block]; omega) (by rw [add_block]; intro e; have := ho3 _ e.symm; omega)).trans c3⟩
              have HL8 := Lib.hid (show w8.ownsRow w.heap.size 35 4 (.slice A8 n8 c8) (X ++ strR (x, z) (S.take (q + 1))).length (flatR (X ++ strR (x, z) (S.take (q + 1)))) by rw [hST, ← List.append_assoc]; exact hl8)
              have HrP8 := Lib.hid (HrP3.out.grownFar G8 (by omega) (fun g hg => .inr (ho3 g hg).1))
              have HrS8 := Lib.hid (HrS3.out.grownFar G8 zW3 (fun g hg => (ho3 g hg).2))
              have B8 := Lib.hid (BW3.trans (below_grown G8 (fun g hg => (World.ownsRow.lt HO3.out g hg).1) hzb))
              have ho8 : ∀ g, (Value.slice A8 n8 c8).ownBlock = some g → UP ≤ g ∧ (g < Ls ∨ w1.heap.size ≤ g) := fun g hg => by
                rcases hv8 g hg with h | h
                · exact ho3 g h
                · exact ⟨by omega, .inr (by omega)⟩
              have z8 := G8.size
              have HRUN := Lib.hid hr8
              clear hr8 hl8 hg8 hv8 G8 hST hp hXl
              go_wp2
              refine wp_region_held_drew (S := fun w' => w'.cell? (asl.add (q * 2)) = some (.int .i64 p1) ∧ w'.cell? ⟨(asl.add (q * 2)).block, (asl.add (q * 2)).off + 1, none⟩ = some (.int .i64 p2) ∧ w'.cell? (adp.add m) = some (.int .i64 x) ∧ w'.cell? (adp.add kk) = some (.int .i64 z)) (by kernel_rfl) s0 (fun hHeld => ?_)
              (refine takeD (i := 0) (d := 62) (oi := _) (v := ?_) rfl rfl (by kernel_rfl) (by kernel_rfl) (by kernel_rfl) (fun _ _ _ h => h) (Or.inl ⟨by rfl, ?_⟩) (by assumption) ?_; rotate_left; (focus ((intro w hSw; (try dsimp only at hSw); go_simp) <;> (with_reducible rfl))); (try simp only [Act.put, List.setIfInBounds_toArray, List.set_cons_zero, List.set_cons_succ]))
              (refine takeD (i := 1) (d := 63) (oi := _) (v := ?_) rfl rfl (by kernel_rfl) (by kernel_rfl) (by kernel_rfl) (fun _ _ _ h => h) (Or.inl ⟨by rfl, ?_⟩) (by assumption) ?_; rotate_left; (focus ((intro w hSw; (try dsimp only at hSw); go_simp) <;> (with_reducible rfl))); (try simp only [Act.put, List.setIfInBounds_toArray, List.set_cons_zero, List.set_cons_succ]))
              (refine takeD (i := 2) (d := 64) (oi := _) (v := ?_) rfl rfl (by kernel_rfl) (by kernel_rfl) (by kernel_rfl) (fun _ _ _ h => h) (Or.inl ⟨by rfl, ?_⟩) (by assumption) ?_; rotate_left; (focus ((intro w hSw; (try dsimp only at hSw); go_simp) <;> (with_reducible rfl))); (try simp only [Act.put, List.setIfInBounds_toArray, List.set_cons_zero, List.set_cons_succ]))
              (refine takeD (i := 3) (d := 65) (oi := _) (v := ?_) rfl rfl (by kernel_rfl) (by kernel_rfl) (by kernel_rfl) (fun _ _ _ h => h) (Or.inl ⟨by rfl, ?_⟩) (by assumption) ?_; rotate_left; (focus ((intro w hSw; (try dsimp only at hSw); go_simp) <;> (with_reducible rfl))); (try simp only [Act.put, List.setIfInBounds_toArray, List.set_cons_zero, List.set_cons_succ]))
              (refine takeD (i := 4) (d := 66) (oi := _) (v := ?_) rfl rfl (by kernel_rfl) (by kernel_rfl) (by kernel_rfl) (fun _ _ _ h => h) (Or.inl ⟨by rfl, ?_⟩) (by assumption) ?_; rotate_left; (focus ((intro w hSw; (try dsimp only at hSw); go_simp) <;> (with_reducible rfl))); (try simp only [Act.put, List.setIfInBounds_toArray, List.set_cons_zero, List.set_cons_succ]))
              (refine takeD (i := 5) (d := 67) (oi := _) (v := ?_) rfl rfl (by kernel_rfl) (by kernel_rfl) (by kernel_rfl) (fun _ _ _ h => h) (Or.inl ⟨by rfl, ?_⟩) (by assumption) ?_; rotate_left; (focus ((intro w hSw; (try dsimp only at hSw); go_simp) <;> (with_reducible rfl))); (try simp only [Act.put, List.setIfInBounds_toArray, List.set_cons_zero, List.set_cons_succ]))
              (refine takeD (i := 6) (d := 68) (oi := _) (v := ?_) rfl rfl (by kernel_rfl) (by kernel_rfl) (by kernel_rfl) (fun _ _ _ h => h) (Or.inl ⟨by rfl, ?_⟩) (by assumption) ?_; rotate_left; (focus ((intro w hSw; (try dsimp only at hSw); go_simp) <;> (with_reducible rfl))); (try simp only [Act.put, List.setIfInBounds_toArray, List.set_cons_zero, List.set_cons_succ]))
              (refine takeD (i := 7) (d := 69) (oi := _) (v := ?_) rfl rfl (by kernel_rfl) (by kernel_rfl) (by kernel_rfl) (fun _ _ _ h => h) (Or.inl ⟨by rfl, ?_⟩) (by assumption) ?_; rotate_left; (focus ((intro w hSw; (try dsimp only at hSw); go_simp) <;> (with_reducible rfl))); (try simp only [Act.put, List.setIfInBounds_toArray, List.set_cons_zero, List.set_cons_succ]))
              (refine takeD (i := 8) (d := 70) (oi := _) (v := ?_) rfl rfl (by kernel_rfl) (by kernel_rfl) (by kernel_rfl) (fun _ _ _ h => h) (Or.inl ⟨by rfl, ?_⟩) (by assumption) ?_; rotate_left; (focus ((intro w hSw; (try dsimp only at hSw); go_simp) <;> (with_reducible rfl))); (try simp only [Act.put, List.setIfInBounds_toArray, List.set_cons_zero, List.set_cons_succ]))
              (refine takeD (i := 9) (d := 71) (oi := _) (v := ?_) rfl rfl (by kernel_rfl) (by kernel_rfl) (by kernel_rfl) (fun _ _ _ h => h) (Or.inl ⟨by rfl, ?_⟩) (by assumption) ?_; rotate_left; (focus ((intro w hSw; (try dsimp only at hSw); go_simp) <;> (with_reducible rfl))); (try simp only [Act.put, List.setIfInBounds_toArray, List.set_cons_zero, List.set_cons_succ]))
              (refine takeD (i := 10) (d := 72) (oi := _) (v := ?_) rfl rfl (by kernel_rfl) (by kernel_rfl) (by kernel_rfl) (fun _ _ _ h => h) (Or.inl ⟨by rfl, ?_⟩) (by assumption) ?_; rotate_left; (focus ((intro w hSw; (try dsimp only at hSw); go_simp) <;> (with_reducible rfl))); (try simp only [Act.put, List.setIfInBounds_toArray, List.set_cons_zero, List.set_cons_succ]))
              (refine takeD (i := 11) (d := 73) (oi := _) (v := ?_) rfl rfl (by kernel_rfl) (by kernel_rfl) (by kernel_rfl) (fun _ _ _ h => h) (Or.inl ⟨by rfl, ?_⟩) (by assumption) ?_; rotate_left; (focus ((intro w hSw; (try dsimp only at hSw); go_simp) <;> (with_reducible rfl))); (try simp only [Act.put, List.setIfInBounds_toArray, List.set_cons_zero, List.set_cons_succ]))
              (refine takeD (i := 12) (d := 74) (oi := _) (v := ?_) rfl rfl (by kernel_rfl) (by kernel_rfl) (by kernel_rfl) (fun _ _ _ h => h) (Or.inl ⟨by rfl, ?_⟩) (by assumption) ?_; rotate_left; (focus ((intro w hSw; (try dsimp only at hSw); go_simp) <;> (with_reducible rfl))); (try simp only [Act.put, List.setIfInBounds_toArray, List.set_cons_zero, List.set_cons_succ]))
              (refine takeD (i := 13) (d := 75) (oi := _) (v := ?_) rfl rfl (by kernel_rfl) (by kernel_rfl) (by kernel_rfl) (fun _ _ _ h => h) (Or.inl ⟨by rfl, ?_⟩) (by assumption) ?_; rotate_left; (focus ((intro w hSw; (try dsimp only at hSw); go_simp) <;> (with_reducible rfl))); (try simp only [Act.put, List.setIfInBounds_toArray, List.set_cons_zero, List.set_cons_succ]))
              (refine takeD (i := 14) (d := 76) (oi := _) (v := ?_) rfl rfl (by kernel_rfl) (by kernel_rfl) (by kernel_rfl) (fun _ _ _ h => h) (Or.inl ⟨by rfl, ?_⟩) (by assumption) ?_; rotate_left; (focus ((intro w hSw; (try dsimp only at hSw); go_simp) <;> (with_reducible rfl))); (try simp only [Act.put, List.setIfInBounds_toArray, List.set_cons_zero, List.set_cons_succ]))
              refine wpAnyH_ready (rs := [15]) (by kernel_rfl) (by simp) ?_
              refine AllReadyH.cons (o := _) rfl (fun K hK => ?_) AllReadyH.nil
              go_simp
              skip
              refine hK.out _ _ (by (try dsimp only); exact s1) (fun hHeld => ?_)
              clear hK
              (try simp only [Act.put, List.setIfInBounds_toArray, List.set_cons_zero, List.set_cons_succ])
              refine wpAnyH_ready (rs := [16]) (by kernel_rfl) (by simp) ?_
              refine AllReadyH.cons (o := _) rfl (fun K hK => ?_) AllReadyH.nil
              refine step_append_eq rfl _ _ _ _ rfl (.slice A9 n9 c9) (.slice (some ⟨wr.drew.heap.size, 0, none⟩) 1 1) rfl rfl (HRUN.out _) ?_
              refine hK.out _ _ s8 (fun hHeld => ?_)
              clear hK
              (try simp only [Act.put, List.setIfInBounds_toArray, List.set_cons_zero, List.set_cons_succ])
              (refine takeD (i := 17) (d := 9) (oi := _) (v := ?_) rfl rfl (by kernel_rfl) (by kernel_rfl) (by kernel_rfl) (fun _ _ _ h => h) (Or.inl ⟨by rfl, ?_⟩) (by assumption) ?_; rotate_left; (focus ((intro w hSw; (try dsimp only at hSw); go_simp) <;> (with_reducible rfl))); (try simp only [Act.put, List.setIfInBounds_toArray, List.set_cons_zero, List.set_cons_succ]))
              refine wpAnyH_done (by kernel_rfl) ?_ _
              go_wp2
              go_roundw
              case rel => exact ⟨q + 1, by omega, by go_num, HL8, ho8, HrP8, HrS8, by omega, B8.out⟩
              case measure => simp [intOf]; omega
            · have hqd : ¬ (q : Int) < S.length := by omega
              have hST : S.take q = S := List.take_of_length_le (by omega)
              rw [hST] at HO3
              go_wp2
              go_roundw
              case rel => exact ⟨kk, X ++ strR (x, z) S, rfl, by omega, HR2, HO3, fun g hg => (ho3 g hg).1, HrP3, by omega, BW3⟩
              case measure => simp [intOf]; omega
    · have i4 : ¬ ((m : Int) + 1 < (P.length : Int)) := by omega
      have HX := Lib.hid (HRA.out.stop (by omega))
      have hXl := HRA.out.len
      have HXo := Lib.hid (RdR.of_own HO.out (by omega))
      obtain ⟨A9, n9, c9, rfl⟩ := own_slice HO.out
      go_wp2
      go_ret
      exact ⟨_, rfl, by rw [HX.out]; exact HXo.out, BW⟩
end Go.Proofs.YtnbeopkpkagjmaaGreat
/-
  Contracts of the reference's Of, Union, Intersect, Subtract. Conditions: at most 2000 rectangles. (Written by mkRgRd.py.)
-/
namespace Go.Proofs.YtnbeopkpkagjmaaGreat
set_option maxRecDepth 100000
set_option linter.unusedVariables false
set_option linter.unusedSimpArgs false
open Go.RowKit

set_option maxRecDepth 100000 in
theorem rOfR_any (u : Value) (a : List Rc) (w : World) (L : Nat) (hu : RdR w L w.heap.size u a) (la : a.length ≤ 2000) (lc : (ofR a).length ≤ 500000) : Calls Tryz.prog 18 #[u] w (RetRcs w (ofR a)) := by
  have he : cmbR fOr a [] = ofR a := cmb_ext rfl rfl fun v s => by rw [memR_nil]; exact Bool.or_false _
  have HC := Lib.hid (rCombR_any 1 fOr (by simp [Knd]) u (.slice none 0 0) a [] w L w.heap.size hu (RdR.nil _ _ _ _ _) la (by simp) (by rw [he]; exact lc))
  rw [he] at HC
  obtain ⟨A1, c1, rfl, _, _⟩ := hu
  go_enter Tryz.func18, Tryz.ntmps18
  go_wp2_with fail
  with_reducible refine HC.out.mono ?_
  rintro e w4 ⟨v4, rfl, hr4, hb4⟩
  have HX := Lib.hid hr4
  obtain ⟨A4, c4, rfl, _, _⟩ := hr4
  go_wp2
  go_ret
  exact ⟨_, rfl, HX.out, hb4⟩
set_option maxRecDepth 100000 in
theorem rUnionR_any (u v : Value) (a b : List Rc) (w : World) (L L2 : Nat) (hu : RdR w L w.heap.size u a) (hv : RdR w L2 w.heap.size v b) (la : a.length ≤ 2000) (lb : b.length ≤ 2000) (lc : (cmbR fOr a b).length ≤ 500000) : Calls Tryz.prog 20 #[u, v] w (RetRcs w (cmbR fOr a b)) := by
  have HC := Lib.hid (rCombR_any 1 fOr (by simp [Knd]) u v a b w L L2 hu hv la lb lc)
  obtain ⟨A1, c1, rfl, _, _⟩ := hu
  obtain ⟨A2, c2, rfl, _, _⟩ := hv
  go_enter Tryz.func20, Tryz.ntmps20
  go_wp2_with fail
  with_reducible refine HC.out.mono ?_
  rintro e w4 ⟨v4, rfl, hr4, hb4⟩
  have HX := Lib.hid hr4
  obtain ⟨A4, c4, rfl, _, _⟩ := hr4
  go_wp2
  go_ret
  exact ⟨_, rfl, HX.out, hb4⟩
set_option maxRecDepth 100000 in
theorem rInterR_any (u v : Value) (a b : List Rc) (w : World) (L L2 : Nat) (hu : RdR w L w.heap.size u a) (hv : RdR w L2 w.heap.size v b) (la : a.length ≤ 2000) (lb : b.length ≤ 2000) (lc : (cmbR fAnd a b).length ≤ 500000) : Calls Tryz.prog 22 #[u, v] w (RetRcs w (cmbR fAnd a b)) := by
  have HC := Lib.hid (rCombR_any 2 fAnd (by simp [Knd]) u v a b w L L2 hu hv la lb lc)
  obtain ⟨A1, c1, rfl, _, _⟩ := hu
  obtain ⟨A2, c2, rfl, _, _⟩ := hv
  go_enter Tryz.func22, Tryz.ntmps22
  go_wp2_with fail
  with_reducible refine HC.out.mono ?_
  rintro e w4 ⟨v4, rfl, hr4, hb4⟩
  have HX := Lib.hid hr4
  obtain ⟨A4, c4, rfl, _, _⟩ := hr4
  go_wp2
  go_ret
  exact ⟨_, rfl, HX.out, hb4⟩
set_option maxRecDepth 100000 in
theorem rSubR_any (u v : Value) (a b : List Rc) (w : World) (L L2 : Nat) (hu : RdR w L w.heap.size u a) (hv : RdR w L2 w.heap.size v b) (la : a.length ≤ 2000) (lb : b.length ≤ 2000) (lc : (cmbR fSub a b).length ≤ 500000) : Calls Tryz.prog 24 #[u, v] w (RetRcs w (cmbR fSub a b)) := by
  have HC := Lib.hid (rCombR_any 3 fSub (by simp [Knd]) u v a b w L L2 hu hv la lb lc)
  obtain ⟨A1, c1, rfl, _, _⟩ := hu
  obtain ⟨A2, c2, rfl, _, _⟩ := hv
  go_enter Tryz.func24, Tryz.ntmps24
  go_wp2_with fail
  with_reducible refine HC.out.mono ?_
  rintro e w4 ⟨v4, rfl, hr4, hb4⟩
  have HX := Lib.hid hr4
  obtain ⟨A4, c4, rfl, _, _⟩ := hr4
  go_wp2
  go_ret
  exact ⟨_, rfl, HX.out, hb4⟩
end Go.Proofs.YtnbeopkpkagjmaaGreat
/-
  Contract of the reference's Valid: whether a list is a region. Conditions: at most 2000 rectangles, of which the region is short.
-/
namespace Go.Proofs.YtnbeopkpkagjmaaGreat
set_option maxRecDepth 100000
set_option linter.unusedVariables false
set_option linter.unusedSimpArgs false
open Go.RowKit

set_option maxRecDepth 100000 in
theorem rValidR_any (u : Value) (a : List Rc) (w : World) (L : Nat) (hu : RdR w L w.heap.size u a) (la : a.length ≤ 2000) (lc : (ofR a).length ≤ 500000) : Calls Tryz.prog 8 #[u] w fun e w' => e = .returned (.bool (rgV a)) ∧ Below w.heap.size w w' := by
  have HC := Lib.hid (rOfR_any u a w L hu la lc)
  have HU := Lib.hid hu
  have HE := Lib.hid (rgV_iff a)
  obtain ⟨A1, c1, rfl, _, _⟩ := hu
  go_enter Tryz.func8, Tryz.ntmps8
  go_wp2_with fail
  with_reducible refine HC.out.mono ?_
  rintro e w4 ⟨v4, rfl, hr4, hb4⟩
  have HS := Lib.hid (sameR_any v4 (.slice A1 a.length c1) _ a w4 _ L hr4 (HU.out.step hb4 (Nat.le_refl _)))
  obtain ⟨A4, c4, rfl, _, _⟩ := hr4
  clear HC HU
  go_wp2_with fail
  with_reducible refine HS.out.mono ?_
  rintro e w5 ⟨rfl, hb5⟩
  go_wp2
  go_ret
  exact ⟨by rw [HE.out]; rfl, hb4.trans (hb5.mono hb4.size)⟩
/-- A reading of at most 12 rectangles. -/
theorem ofR_len12 {a : List Rc} (ha : a.length ≤ 12) : (ofR a).length ≤ 2256 := cmb12 fA ha (b := []) (by simp)
end Go.Proofs.YtnbeopkpkagjmaaGreat
