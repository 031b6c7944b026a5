import Derived.Test.YteihjneeiojgaaaGreatSExJf
import Derived.WalkKit
import Derived.WalkSpells
import Derived.WalkLawsBesides
import Derived.Deep.QuietTactic
import Derived.BigQuiet
import Derived.Handy
import Derived.Lib.Hide
import Derived.Test.YteihjneeiojgaaaGreatGL
import Derived.Deep.RegionHeld3
import Derived.Test.YteihjneeiojgaaaGreatSEoA
/-
  Check of the reference. Conditions: lengths, a bounded depth.
-/
namespace Go.Proofs.YteihjneeiojgaaaGreat
set_option maxRecDepth 100000
set_option linter.unusedVariables false
set_option linter.unusedSimpArgs false
open Go.RowKit

set_option maxRecDepth 100000 in
set_option maxHeartbeats 3200000 in
theorem rCheck_any (v : Value) (zs : List Int) (d : Nat) (e : Ex) (A : Option Addr) (c : Nat) (w : World) (L L2 : Nat) (h : RdE w L w.heap.size d (.slice A e.args.length c) e.args) (hz : RdI w L2 w.heap.size v zs) (hd : d ≤ 9223372036854775000) :
    Calls Tryz.prog 72 #[exV e (.slice A e.args.length c), v] w fun e' w' => e' = .returned (resV (chkT zs d e)) ∧ Below w.heap.size w w' := by
  have b1 := bel_mk w (.cells (exA e (.slice A e.args.length c)) 73)
  have o1 := Own.new w 73 (exA e (.slice A e.args.length c))
  unfold exA at b1 o1
  have hdep := rDep_any d e (.slice A e.args.length c) _ L (h.step b1 (Nat.le_refl _)) hd
  unfold exV at *
  have HD := Lib.hid hdep
  have HB := Lib.hid b1
  have HO := Lib.hid o1
  have HK := Lib.hid (fun (W : World) (hb : Below w.heap.size w W) => rChk_any v zs d e (.slice A e.args.length c) W L L2 (h.step hb (Nat.le_refl _)) (hz.step hb (Nat.le_refl _)))
  clear hdep b1 o1 h hz
  unfold chkT
  by_cases hd : 24 < depE d e
  · have hm : (24 : Int) < ((depE d e : Nat) : Int) := by omega
    rw [if_pos hd]
    unfold resV
    generalize ((depE d e : Nat) : Int) = q at *
    clear hd HK
    go_enter Tryz.func72, Tryz.ntmps72
    go_wp2_with fail
    with_reducible refine HD.out.mono ?_
    rintro e w3 ⟨rfl, hb3⟩
    go_wp2
    go_ret2
    exact ⟨rfl, HB.out.trans (hb3.mono HB.out.size)⟩
  · have hm : ¬ (24 : Int) < ((depE d e : Nat) : Int) := by omega
    rw [if_neg hd]
    unfold resV exV at *
    generalize ((depE d e : Nat) : Int) = q at *
    generalize kndE zs d e = P at *
    clear hd
    go_enter Tryz.func72, Tryz.ntmps72
    go_wp2_with fail
    with_reducible refine HD.out.mono ?_
    rintro e w3 ⟨rfl, hb3⟩
    have o3 := HO.out.below hb3 HO.out.lt
    have x0 := o3.cell 0
    have x1 := o3.cell 1
    have x2 := o3.cell 2
    have x3 := o3.cell 3
    have x4 := o3.cell 4
    have x5 := o3.cell 5
    have x6 := o3.cell 6
    have HB3 := Lib.hid (HB.out.trans (hb3.mono HB.out.size))
    have hk := HK.out w3 HB3.out
    have HK2 := Lib.hid hk
    clear hb3 o3 hk HK
    go_wp2_with fail
    with_reducible refine HK2.out.mono ?_
    rintro e w4 ⟨rfl, hb4⟩
    go_wp2
    go_ret2
    exact ⟨rfl, HB3.out.trans (hb4.mono HB3.out.size)⟩
end Go.Proofs.YteihjneeiojgaaaGreat
/-
  The reference's constraints and Check over any table: what they answer. Conditions: lengths, a bounded depth.
-/
namespace Go.Proofs.YteihjneeiojgaaaGreat
set_option maxRecDepth 100000
set_option linter.unusedVariables false
set_option linter.unusedSimpArgs false
open Go.RowKit

theorem frgL_drop2 (n : Int) {fs : List Fk} {k : Nat} {f : Fk} (h : fs[k]? = some f) : frgL n (fs.drop k) = if frgO n f.1 f.2 ≠ 0 then frgO n f.1 f.2 else frgL n (fs.drop (k + 1)) := by
  rw [frgL_drop n h]
  unfold frgO
  by_cases h1 : nameS f.2.data.toList = false
  · rw [if_pos h1, if_pos h1, if_pos (by decide)]
  · rw [if_neg h1, if_neg h1]
    by_cases h2 : f.1.length = 0 ∨ difL n [] f.1 = false
    · rw [if_pos h2, if_pos h2, if_pos (by decide)]
    · rw [if_neg h2, if_neg h2, if_neg (by decide)]
/-- What the foreign keys and checks of a table are answered. -/
def conE (cs : List Cl) (fs : List Fk) (d : Nat) (es : List Ex) : Int := if frgE (cs.length : Nat) fs ≠ 0 then frgE (cs.length : Nat) fs else ckxE (cs.map kdC) d es
theorem rdI_slice {w : World} {L B : Nat} {v : Value} {zs : List Int} (h : RdI w L B v zs) : ∃ A c, v = .slice A zs.length c := by
  obtain ⟨A, c, h1, _⟩ := h
  exact ⟨A, c, h1⟩
set_option maxRecDepth 100000 in
set_option maxHeartbeats 12800000 in
theorem rConstraints_any (nm vk vf vx : Value) (A0 : Option Addr) (c0 : Nat) (cs : List Cl) (fs : List Fk) (es : List Ex) (d : Nat) (w : World) (L L3 L4 : Nat) (hc : RdK w L w.heap.size (.slice A0 cs.length c0) cs) (hlen : cs.length ≤ 1099511627776) (hf : RdF w L3 w.heap.size vf fs) (he : RdE w L4 w.heap.size (d + 1) vx es) (hd : d ≤ 9223372036854775000) :
    Calls Tryz.prog 40 #[.agg #[nm, .slice A0 cs.length c0, vk, vf, vx]] w fun e w' => e = .returned (.int .i64 (conE cs fs d es)) ∧ Below w.heap.size w w' := by
  obtain ⟨A, c, rfl, hl1, hc1⟩ := hf
  obtain ⟨A2, c2, rfl, hl2, hc2⟩ := he
  have HC := Lib.hid hc1
  have HC2 := Lib.hid hc2
  have HB1 := Lib.hid (bel_mark w (.cells #[nm, .slice A0 cs.length c0, vk, .slice A fs.length c, .slice A2 es.length c2] 27))
  have HO1 := Lib.hid (Own.new w 27 #[nm, .slice A0 cs.length c0, vk, .slice A fs.length c, .slice A2 es.length c2])
  have HK := Lib.hid (fun (W : World) (hb : Below w.heap.size w W) => rKinds_any nm (.slice A0 cs.length c0) vk (.slice A fs.length c) (.slice A2 es.length c2) cs W L (hc.step hb (Nat.le_refl _)) hlen)
  have HX := Lib.hid (show conE cs fs d es = if frgE (cs.length : Nat) fs ≠ 0 then frgE (cs.length : Nat) fs else ckxE (cs.map kdC) d es from rfl)
  generalize conE cs fs d es = R at *
  generalize cs.length = n at *
  generalize cs.map kdC = zs at *
  clear hc1 hc2 hc
  obtain ⟨d0, d1, d2, d3, d4⟩ := HO1.out.five
  by_cases hx : 4 < fs.length
  · have hxi : (4 : Int) < fs.length := by omega
    have h5 : frgE n fs = 5 := if_pos hx
    have HF := Lib.hid (show R = 5 by rw [HX.out, h5]; exact if_pos (by decide))
    clear hx h5 HK
    go_enter Tryz.func40, Tryz.ntmps40
    go_wp2
    go_ret
    exact ⟨(by rw [HF.out]; try rfl), HB1.out⟩
  have hxi : ¬ (4 : Int) < fs.length := by omega
  have HE := Lib.hid (show frgE n fs = frgL n (fs.drop 0) from if_neg hx)
  clear hx
  go_enter Tryz.func40, Tryz.ntmps40
  go_wp2_with fail
  go_loopw [3] (fun i wr => ∃ k : Nat, k ≤ fs.length ∧ i = .int .i64 k ∧ Hid (frgE n fs = frgL n (fs.drop k)) ∧ Hid (Own wr w.heap.size 27 #[nm, .slice A0 n c0, vk, .slice A fs.length c, .slice A2 es.length c2]) ∧ Below w.heap.size w wr) (fun i _ => fs.length - (intOf i).toNat)
  case atStart => exact ⟨0, Nat.zero_le _, rfl, HE, HO1, HB1.out⟩
  case round =>
    clear HE HO1 HB1 d0 d1 d2 d3 d4
    obtain ⟨k, hk, rfl, HR, HO, hbr⟩ := hrel
    have hbz := hbr.size
    have t3 := HO.out.cell 3
    by_cases hlt : k < fs.length
    · have hki : (k : Int) < fs.length := by omega
      obtain ⟨ad, u, rfl, _, hab, a0, a1, hu⟩ := HC.out k _ (List.getElem?_eq_getElem hlt)
      have hcd := frgL_drop2 n (List.getElem?_eq_getElem hlt)
      rw [← HR.out] at hcd
      generalize fs[k] = q at *
      obtain ⟨ys, s⟩ := q
      dsimp only at a1 hu hcd
      have HFO := Lib.hid (fun r : After wr => rForeign_any nm vk (.slice (some ad) fs.length c) (.slice A2 es.length c2) u A0 n c0 ys s r.w L3 (hu.step (hbr.trans (r.h.mono hbz)) (Nat.le_refl _)))
      obtain ⟨Au, cu, rfl⟩ := rdI_slice hu
      have T0 : ∀ p : After wr, p.w.cell? ⟨w.heap.size, 0, none⟩ = some nm := after_cell HO.out.lt (HO.out.cell 0)
      have T1 : ∀ p : After wr, p.w.cell? ⟨w.heap.size, 1, none⟩ = some (.slice A0 n c0) := after_cell HO.out.lt (HO.out.cell 1)
      have T2 : ∀ p : After wr, p.w.cell? ⟨w.heap.size, 2, none⟩ = some vk := after_cell HO.out.lt (HO.out.cell 2)
      have T3 : ∀ p : After wr, p.w.cell? ⟨w.heap.size, 3, none⟩ = some (.slice (some ad) fs.length c) := after_cell HO.out.lt (HO.out.cell 3)
      have T4 : ∀ p : After wr, p.w.cell? ⟨w.heap.size, 4, none⟩ = some (.slice A2 es.length c2) := after_cell HO.out.lt (HO.out.cell 4)
      have E0 : ∀ p : After wr, p.w.cell? (ad.add (k * 2)) = some (.slice Au ys.length cu) := after_cell (by rw [add_block]; omega) ((hbr.cell (p := ad.add (k * 2)) (by rw [add_block]; exact hab)).trans a0)
      have E1 : ∀ p : After wr, p.w.cell? ⟨(ad.add (k * 2)).block, (ad.add (k * 2)).off + 1, none⟩ = some (.string s) := after_cell (by show (ad.add (k * 2)).block < _; rw [add_block]; omega) ((hbr.cell (p := ⟨(ad.add (k * 2)).block, (ad.add (k * 2)).off + 1, none⟩) (by show (ad.add (k * 2)).block < _; rw [add_block]; exact hab)).trans a1)
      generalize frgO n ys s = fo at *
      have HCD := Lib.hid hcd
      clear a0 a1 hu hcd
      by_cases hfo : fo = 0
      rotate_left
      · have hfb : (fo != 0) = true := by simp [hfo]
        have HF := Lib.hid (show R = fo from by
          have h := HCD.out
          rw [if_pos hfo] at h
          rw [HX.out, h]
          exact if_pos hfo)
        clear hfo HCD
        go_wp2_with fail
        clear t3
        (refine wp_region_after (by kernel_rfl) (by kernel_rfl) ?_; (repeat (go_big_quiet_step ((go_at_call 71; exact calls_after (HFO.out _))))); refine wpQuiet_nil ?_; intro wq hw0; obtain ⟨⟨wq0, hbq⟩, hw1⟩ := hw0; subst hw1; (try dsimp only))
        clear T0 T1 T2 T3 T4 E0 E1
        go_wp2
        go_ret
        exact ⟨(by rw [HF.out]; try rfl), hbr.trans (hbq.mono hbz)⟩
      · have hfb : (fo != 0) = false := by simp [hfo]
        have HF := Lib.hid (HCD.out.trans (if_neg (fun h => h hfo)))
        clear hfo HCD
        go_wp2_with fail
        clear t3
        (refine wp_region_after (by kernel_rfl) (by kernel_rfl) ?_; (repeat (go_big_quiet_step ((go_at_call 71; exact calls_after (HFO.out _))))); refine wpQuiet_nil ?_; intro wq hw0; obtain ⟨⟨wq0, hbq⟩, hw1⟩ := hw0; subst hw1; (try dsimp only))
        have HOQ := Lib.hid (HO.out.below hbq HO.out.lt)
        have HBQ := Lib.hid (hbr.trans (hbq.mono hbz))
        clear T0 T1 T2 T3 T4 E0 E1 hbq
        go_wp2
        go_roundw
        case rel => exact ⟨k + 1, by omega, by go_num, HF, HOQ, HBQ.out⟩
        case measure => simp [intOf]; omega
    · have hki : ¬ (k : Int) < fs.length := by omega
      have h0 : frgE n fs = 0 := by rw [HR.out, List.drop_eq_nil_of_le (show fs.length ≤ k by omega)]; rfl
      have HX2 := Lib.hid (show R = ckxE zs d es by rw [HX.out, h0]; exact if_neg (by decide))
      have t4 := HO.out.cell 4
      clear h0 HX HR HC
      by_cases hx : 4 < es.length
      · have hxi : (4 : Int) < es.length := by omega
        have HF := Lib.hid (HX2.out.trans (if_pos hx))
        clear hx HK
        go_wp2
        go_ret
        exact ⟨(by rw [HF.out]; try rfl), hbr⟩
      have hxi : ¬ (4 : Int) < es.length := by omega
      have HE := Lib.hid (show R = ckxL zs d (es.drop 0) from HX2.out.trans (if_neg hx))
      have HOI := HO
      have HBI := Lib.hid hbr
      clear hx HX2 HO hbr hbz
      go_wp2_with fail
      go_loopw [5] (fun i wr => ∃ j : Nat, j ≤ es.length ∧ i = .int .i64 j ∧ Hid (R = ckxL zs d (es.drop j)) ∧ Hid (Own wr w.heap.size 27 #[nm, .slice A0 n c0, vk, .slice A fs.length c, .slice A2 es.length c2]) ∧ Below w.heap.size w wr) (fun i _ => es.length - (intOf i).toNat)
      case atStart => exact ⟨0, Nat.zero_le _, rfl, HE, HOI, HBI.out⟩
      case round =>
        clear HE HOI HBI t3 t4
        obtain ⟨j, hj, rfl, HR, HO, hbr⟩ := hrel
        have hbz := hbr.size
        have t4 := HO.out.cell 4
        by_cases hlj : j < es.length
        · have hji : (j : Int) < es.length := by omega
          obtain ⟨ad, u, rfl, _, hab, hxc, hxr⟩ := HC2.out j _ (List.getElem?_eq_getElem hlj)
          have hcd := ckxL_drop zs d (List.getElem?_eq_getElem hlj)
          rw [← HR.out] at hcd
          generalize es[j] = y at *
          obtain ⟨A3, c3, rfl, hl3⟩ := hxr.slice
          have hx := hxc.below hbr (by rw [add_blk]; exact hab)
          have HCK := Lib.hid (fun (W : World) (hb : Below w.heap.size w W) (v : Value) (hv : RdI W 0 W.heap.size v zs) => rCheck_any v zs d y A3 c3 W L4 0 (hxr.step hb (Nat.le_refl _)) hv hd)
          have HCD := Lib.hid hcd
          obtain ⟨x0, x1, x2, x3, x4, x5, x6⟩ := hx
          have habr : ad.block < wr.heap.size := by omega
          have HOD := Lib.hid (show Own wr.drew w.heap.size 27 #[nm, .slice A0 n c0, vk, .slice A fs.length c, .slice (some ad) es.length c2] from HO.out)
          have HBD := Lib.hid (show Below w.heap.size w wr.drew from hbr.drew)
          have HS := Lib.hid (show ∀ w', Below wr.drew.heap.size wr.drew w' → (Below wr.drew.heap.size wr.drew w' ∧ w'.cell? ⟨w.heap.size, 0, none⟩ = some nm ∧ w'.cell? ⟨w.heap.size, 1, none⟩ = some (.slice A0 n c0) ∧ w'.cell? ⟨w.heap.size, 2, none⟩ = some vk ∧ w'.cell? ⟨w.heap.size, 3, none⟩ = some (.slice A fs.length c) ∧ w'.cell? ⟨w.heap.size, 4, none⟩ = some (.slice (some ad) es.length c2) ∧ w'.cell? (ad.add (j * 7)) = some (.int .i64 y.op) ∧ w'.cell? (⟨(ad.add (j * 7)).block, (ad.add (j * 7)).off + 1, none⟩) = some (.int .i64 y.n) ∧ w'.cell? (⟨(ad.add (j * 7)).block, (ad.add (j * 7)).off + 2, none⟩) = some (.int .i64 y.v.1) ∧ w'.cell? (⟨(ad.add (j * 7)).block, (ad.add (j * 7)).off + 3, none⟩) = some (.int .i64 y.v.2.1) ∧ w'.cell? (⟨(ad.add (j * 7)).block, (ad.add (j * 7)).off + 4, none⟩) = some (.string y.v.2.2) ∧ w'.cell? (⟨(ad.add (j * 7)).block, (ad.add (j * 7)).off + 5, none⟩) = some (.string y.nm) ∧ w'.cell? (⟨(ad.add (j * 7)).block, (ad.add (j * 7)).off + 6, none⟩) = some (.slice A3 y.args.length c3)) from fun w' hb => ⟨hb, (HOD.out.below hb HOD.out.lt).cell 0, (HOD.out.below hb HOD.out.lt).cell 1, (HOD.out.below hb HOD.out.lt).cell 2, (HOD.out.below hb HOD.out.lt).cell 3, (HOD.out.below hb HOD.out.lt).cell 4, (hb.cell (p := ad.add (j * 7)) (show (ad.add (j * 7)).block < wr.heap.size by rw [add_block]; exact habr)).trans x0, (hb.cell (p := ⟨(ad.add (j * 7)).block, (ad.add (j * 7)).off + 1, none⟩) (show (ad.add (j * 7)).block < wr.heap.size by rw [add_block]; exact habr)).trans x1, (hb.cell (p := ⟨(ad.add (j * 7)).block, (ad.add (j * 7)).off + 2, none⟩) (show (ad.add (j * 7)).block < wr.heap.size by rw [add_block]; exact habr)).trans x2, (hb.cell (p := ⟨(ad.add (j * 7)).block, (ad.add (j * 7)).off + 3, none⟩) (show (ad.add (j * 7)).block < wr.heap.size by rw [add_block]; exact habr)).trans x3, (hb.cell (p := ⟨(ad.add (j * 7)).block, (ad.add (j * 7)).off + 4, none⟩) (show (ad.add (j * 7)).block < wr.heap.size by rw [add_block]; exact habr)).trans x4, (hb.cell (p := ⟨(ad.add (j * 7)).block, (ad.add (j * 7)).off + 5, none⟩) (show (ad.add (j * 7)).block < wr.heap.size by rw [add_block]; exact habr)).trans x5, (hb.cell (p := ⟨(ad.add (j * 7)).block, (ad.add (j * 7)).off + 6, none⟩) (show (ad.add (j * 7)).block < wr.heap.size by rw [add_block]; exact habr)).trans x6⟩)
          clear hxc hxr hcd
          unfold exV resV at *
          generalize chkT zs d y = P at *
          obtain ⟨pk, pe⟩ := P
          dsimp only at HCK HCD
          clear x0 x1 x2 x3 x4 x5 x6
          by_cases he0 : pe = 0
          rotate_left
          · have p0 : (pe != 0) = true := by simp [he0]
            have HF := Lib.hid (HCD.out.trans (if_pos he0))
            clear he0 HCD
            go_wp2_with fail
            clear t4
            go_region_held3 (fun w' => Below wr.drew.heap.size wr.drew w' ∧ w'.cell? ⟨w.heap.size, 0, none⟩ = some nm ∧ w'.cell? ⟨w.heap.size, 1, none⟩ = some (.slice A0 n c0) ∧ w'.cell? ⟨w.heap.size, 2, none⟩ = some vk ∧ w'.cell? ⟨w.heap.size, 3, none⟩ = some (.slice A fs.length c) ∧ w'.cell? ⟨w.heap.size, 4, none⟩ = some (.slice (some ad) es.length c2) ∧ w'.cell? (ad.add (j * 7)) = some (.int .i64 y.op) ∧ w'.cell? (⟨(ad.add (j * 7)).block, (ad.add (j * 7)).off + 1, none⟩) = some (.int .i64 y.n) ∧ w'.cell? (⟨(ad.add (j * 7)).block, (ad.add (j * 7)).off + 2, none⟩) = some (.int .i64 y.v.1) ∧ w'.cell? (⟨(ad.add (j * 7)).block, (ad.add (j * 7)).off + 3, none⟩) = some (.int .i64 y.v.2.1) ∧ w'.cell? (⟨(ad.add (j * 7)).block, (ad.add (j * 7)).off + 4, none⟩) = some (.string y.v.2.2) ∧ w'.cell? (⟨(ad.add (j * 7)).block, (ad.add (j * 7)).off + 5, none⟩) = some (.string y.nm) ∧ w'.cell? (⟨(ad.add (j * 7)).block, (ad.add (j * 7)).off + 6, none⟩) = some (.slice A3 y.args.length c3))
              (first | (exact HS.out _ (Below.refl _ _)) | (exact HS.out _ hb))
              ((first
                | (go_at_call 73; with_reducible refine (HK.out _ HBD.out).mono ?_; rintro e v1 ⟨uk, rfl, hu, hq1⟩; obtain ⟨Ak, ck, rfl⟩ := rdI_slice hu; have hb := hq1)
                | (go_at_call 72; with_reducible refine (HCK.out _ (HBD.out.trans (hq1.mono HBD.out.size)) _ hu).mono ?_; rintro e v2 ⟨rfl, hq2⟩; have hb := hq1.trans (hq2.mono hq1.size))))
            have HOQ := Lib.hid (HOD.out.below hb HOD.out.lt)
            have HBQ := Lib.hid (HBD.out.trans (hb.mono HBD.out.size))
            clear hb hu hq1 hq2
            go_wp2
            go_ret
            exact ⟨(by rw [HF.out]; try rfl), HBQ.out⟩
          subst he0
          have HCD := Lib.hid (HCD.out.trans (if_neg (fun h => h rfl)))
          by_cases hk3 : pk = 3
          · subst hk3
            have HF := Lib.hid (HCD.out.trans (if_neg (fun h => h.1 rfl)))
            clear HCD
            go_wp2_with fail
            clear t4
            go_region_held3 (fun w' => Below wr.drew.heap.size wr.drew w' ∧ w'.cell? ⟨w.heap.size, 0, none⟩ = some nm ∧ w'.cell? ⟨w.heap.size, 1, none⟩ = some (.slice A0 n c0) ∧ w'.cell? ⟨w.heap.size, 2, none⟩ = some vk ∧ w'.cell? ⟨w.heap.size, 3, none⟩ = some (.slice A fs.length c) ∧ w'.cell? ⟨w.heap.size, 4, none⟩ = some (.slice (some ad) es.length c2) ∧ w'.cell? (ad.add (j * 7)) = some (.int .i64 y.op) ∧ w'.cell? (⟨(ad.add (j * 7)).block, (ad.add (j * 7)).off + 1, none⟩) = some (.int .i64 y.n) ∧ w'.cell? (⟨(ad.add (j * 7)).block, (ad.add (j * 7)).off + 2, none⟩) = some (.int .i64 y.v.1) ∧ w'.cell? (⟨(ad.add (j * 7)).block, (ad.add (j * 7)).off + 3, none⟩) = some (.int .i64 y.v.2.1) ∧ w'.cell? (⟨(ad.add (j * 7)).block, (ad.add (j * 7)).off + 4, none⟩) = some (.string y.v.2.2) ∧ w'.cell? (⟨(ad.add (j * 7)).block, (ad.add (j * 7)).off + 5, none⟩) = some (.string y.nm) ∧ w'.cell? (⟨(ad.add (j * 7)).block, (ad.add (j * 7)).off + 6, none⟩) = some (.slice A3 y.args.length c3))
              (first | (exact HS.out _ (Below.refl _ _)) | (exact HS.out _ hb))
              ((first
                | (go_at_call 73; with_reducible refine (HK.out _ HBD.out).mono ?_; rintro e v1 ⟨uk, rfl, hu, hq1⟩; obtain ⟨Ak, ck, rfl⟩ := rdI_slice hu; have hb := hq1)
                | (go_at_call 72; with_reducible refine (HCK.out _ (HBD.out.trans (hq1.mono HBD.out.size)) _ hu).mono ?_; rintro e v2 ⟨rfl, hq2⟩; have hb := hq1.trans (hq2.mono hq1.size))))
            have HOQ := Lib.hid (HOD.out.below hb HOD.out.lt)
            have HBQ := Lib.hid (HBD.out.trans (hb.mono HBD.out.size))
            clear hb hu hq1 hq2
            go_wp2
            go_roundw
            case rel => exact ⟨j + 1, by omega, by go_num, HF, HOQ, HBQ.out⟩
            case measure => simp [intOf]; omega
          by_cases hk0 : pk = 0
          · subst hk0
            have HF := Lib.hid (HCD.out.trans (if_neg (fun h => h.2 rfl)))
            clear HCD hk3
            go_wp2_with fail
            clear t4
            go_region_held3 (fun w' => Below wr.drew.heap.size wr.drew w' ∧ w'.cell? ⟨w.heap.size, 0, none⟩ = some nm ∧ w'.cell? ⟨w.heap.size, 1, none⟩ = some (.slice A0 n c0) ∧ w'.cell? ⟨w.heap.size, 2, none⟩ = some vk ∧ w'.cell? ⟨w.heap.size, 3, none⟩ = some (.slice A fs.length c) ∧ w'.cell? ⟨w.heap.size, 4, none⟩ = some (.slice (some ad) es.length c2) ∧ w'.cell? (ad.add (j * 7)) = some (.int .i64 y.op) ∧ w'.cell? (⟨(ad.add (j * 7)).block, (ad.add (j * 7)).off + 1, none⟩) = some (.int .i64 y.n) ∧ w'.cell? (⟨(ad.add (j * 7)).block, (ad.add (j * 7)).off + 2, none⟩) = some (.int .i64 y.v.1) ∧ w'.cell? (⟨(ad.add (j * 7)).block, (ad.add (j * 7)).off + 3, none⟩) = some (.int .i64 y.v.2.1) ∧ w'.cell? (⟨(ad.add (j * 7)).block, (ad.add (j * 7)).off + 4, none⟩) = some (.string y.v.2.2) ∧ w'.cell? (⟨(ad.add (j * 7)).block, (ad.add (j * 7)).off + 5, none⟩) = some (.string y.nm) ∧ w'.cell? (⟨(ad.add (j * 7)).block, (ad.add (j * 7)).off + 6, none⟩) = some (.slice A3 y.args.length c3))
              (first | (exact HS.out _ (Below.refl _ _)) | (exact HS.out _ hb))
              ((first
                | (go_at_call 73; with_reducible refine (HK.out _ HBD.out).mono ?_; rintro e v1 ⟨uk, rfl, hu, hq1⟩; obtain ⟨Ak, ck, rfl⟩ := rdI_slice hu; have hb := hq1)
                | (go_at_call 72; with_reducible refine (HCK.out _ (HBD.out.trans (hq1.mono HBD.out.size)) _ hu).mono ?_; rintro e v2 ⟨rfl, hq2⟩; have hb := hq1.trans (hq2.mono hq1.size))))
            have HOQ := Lib.hid (HOD.out.below hb HOD.out.lt)
            have HBQ := Lib.hid (HBD.out.trans (hb.mono HBD.out.size))
            clear hb hu hq1 hq2
            go_wp2
            go_roundw
            case rel => exact ⟨j + 1, by omega, by go_num, HF, HOQ, HBQ.out⟩
            case measure => simp [intOf]; omega
          · have HF := Lib.hid (HCD.out.trans (if_pos ⟨hk3, hk0⟩))
            have k3 : (pk != 3) = true := by simp [hk3]
            have k0 : (pk != 0) = true := by simp [hk0]
            clear HCD hk3 hk0
            go_wp2_with fail
            clear t4
            go_region_held3 (fun w' => Below wr.drew.heap.size wr.drew w' ∧ w'.cell? ⟨w.heap.size, 0, none⟩ = some nm ∧ w'.cell? ⟨w.heap.size, 1, none⟩ = some (.slice A0 n c0) ∧ w'.cell? ⟨w.heap.size, 2, none⟩ = some vk ∧ w'.cell? ⟨w.heap.size, 3, none⟩ = some (.slice A fs.length c) ∧ w'.cell? ⟨w.heap.size, 4, none⟩ = some (.slice (some ad) es.length c2) ∧ w'.cell? (ad.add (j * 7)) = some (.int .i64 y.op) ∧ w'.cell? (⟨(ad.add (j * 7)).block, (ad.add (j * 7)).off + 1, none⟩) = some (.int .i64 y.n) ∧ w'.cell? (⟨(ad.add (j * 7)).block, (ad.add (j * 7)).off + 2, none⟩) = some (.int .i64 y.v.1) ∧ w'.cell? (⟨(ad.add (j * 7)).block, (ad.add (j * 7)).off + 3, none⟩) = some (.int .i64 y.v.2.1) ∧ w'.cell? (⟨(ad.add (j * 7)).block, (ad.add (j * 7)).off + 4, none⟩) = some (.string y.v.2.2) ∧ w'.cell? (⟨(ad.add (j * 7)).block, (ad.add (j * 7)).off + 5, none⟩) = some (.string y.nm) ∧ w'.cell? (⟨(ad.add (j * 7)).block, (ad.add (j * 7)).off + 6, none⟩) = some (.slice A3 y.args.length c3))
              (first | (exact HS.out _ (Below.refl _ _)) | (exact HS.out _ hb))
              ((first
                | (go_at_call 73; with_reducible refine (HK.out _ HBD.out).mono ?_; rintro e v1 ⟨uk, rfl, hu, hq1⟩; obtain ⟨Ak, ck, rfl⟩ := rdI_slice hu; have hb := hq1)
                | (go_at_call 72; with_reducible refine (HCK.out _ (HBD.out.trans (hq1.mono HBD.out.size)) _ hu).mono ?_; rintro e v2 ⟨rfl, hq2⟩; have hb := hq1.trans (hq2.mono hq1.size))))
            have HOQ := Lib.hid (HOD.out.below hb HOD.out.lt)
            have HBQ := Lib.hid (HBD.out.trans (hb.mono HBD.out.size))
            clear hb hu hq1 hq2
            go_wp2
            go_ret
            exact ⟨(by rw [HF.out]; try rfl), HBQ.out⟩
        · have hji : ¬ (j : Int) < es.length := by omega
          have HF := Lib.hid (show R = 0 by rw [HR.out, List.drop_eq_nil_of_le (show es.length ≤ j by omega)]; rfl)
          go_wp2
          go_ret
          exact ⟨(by rw [HF.out]; try rfl), hbr⟩
end Go.Proofs.YteihjneeiojgaaaGreat
/-
  The reference's Check over any table: what it answers; the walk of the statement SchemaChecks. Conditions: the search's variable holds some number; lengths, a bounded depth.
-/
namespace Go.Proofs.YteihjneeiojgaaaGreat
set_option maxRecDepth 100000
set_option linter.unusedVariables false
set_option linter.unusedSimpArgs false
open Go.RowKit

set_option maxRecDepth 100000 in
set_option maxHeartbeats 6400000 in
theorem rTabCheck_any (nm : ByteArray) (vc vk vf vx : Value) (cs : List Cl) (ks : List Int) (fs : List Fk) (es : List Ex) (d : Nat) (w : World) (L L2 L3 L4 : Nat) (hc : RdK w L w.heap.size vc cs) (hk : RdI w L2 w.heap.size vk ks) (hf : RdF w L3 w.heap.size vf fs) (he : RdE w L4 w.heap.size (d + 1) vx es) (hlen : cs.length ≤ 1099511627776) (hd : d ≤ 9223372036854775000) :
    Calls Tryz.prog 20 #[.agg #[.string nm, vc, vk, vf, vx]] w fun e w' => e = .returned (.int .i64 (chkA nm.data.toList cs ks fs d es)) ∧ Below w.heap.size w w' := by
  have b1 := bel_mark w (.cells #[.string nm, vc, vk, vf, vx] 27)
  have HO1 := Lib.hid ((Own.new w 27 #[.string nm, vc, vk, vf, vx]))
  have HN := Lib.hid (fun W => rName_any nm W)
  have H1 := Lib.hid (fun W (h : Below w.heap.size w W) => rTColumns_any (.string nm) vc vk vf vx cs W L (hc.step h (Nat.le_refl _)))
  have H2 := Lib.hid (fun W (h : Below w.heap.size w W) => rTKey_any (.string nm) vc vk vf vx cs ks W L L2 (hc.step h (Nat.le_refl _)) (hk.step h (Nat.le_refl _)))
  have H3 := Lib.hid (fun W (h : Below w.heap.size w W) => (show Calls Tryz.prog 40 #[.agg #[.string nm, vc, vk, vf, vx]] W fun e w' => e = .returned (.int .i64 (conE cs fs d es)) ∧ Below W.heap.size W w' from by
    have hc2 := hc.step h (Nat.le_refl _)
    obtain ⟨A, c, rfl, _, _⟩ := hc
    exact rConstraints_any (.string nm) vk vf vx A c cs fs es d W L L3 L4 hc2 hlen (hf.step h (Nat.le_refl _)) (he.step h (Nat.le_refl _)) hd))
  obtain ⟨d0, d1, d2, d3, d4⟩ := HO1.out.five
  have HB1 := Lib.hid b1
  have HX := Lib.hid (show chkA nm.data.toList cs ks fs d es = if nameS nm.data.toList = false then 1 else if clsE cs ≠ 0 then clsE cs else if keyE cs ks ≠ 0 then keyE cs ks else conE cs fs d es from rfl)
  generalize chkA nm.data.toList cs ks fs d es = R at *
  generalize nameS nm.data.toList = bn at *
  generalize hce : clsE cs = ce at *
  generalize hke : keyE cs ks = ke at *
  generalize hxe : conE cs fs d es = xe at *
  clear b1 hc hk hf he hce hke hxe
  cases bn
  · have HF := Lib.hid (HX.out.trans (if_pos rfl))
    go_enter Tryz.func20, Tryz.ntmps20
    go_wp2_with fail
    with_reducible refine (HN.out _).mono ?_
    rintro e w1 ⟨rfl, hb⟩
    go_wp2
    go_ret
    exact ⟨(by rw [HF.out]; try rfl), HB1.out.trans (hb.mono HB1.out.size)⟩
  have HX := Lib.hid (HX.out.trans (if_neg (by decide)))
  go_enter Tryz.func20, Tryz.ntmps20
  go_wp2_with fail
  with_reducible refine (HN.out _).mono ?_
  rintro e w1 ⟨rfl, hb⟩
  have HO2 := Lib.hid (HO1.out.below hb HO1.out.lt)
  have HB2 := Lib.hid (HB1.out.trans (hb.mono HB1.out.size))
  have h1 := H1.out w1 HB2.out
  clear HN H1 hb d0 d1 d2 d3 d4
  obtain ⟨d0, d1, d2, d3, d4⟩ := HO2.out.five
  by_cases q0 : ce = 0
  rotate_left
  · have HF := Lib.hid (HX.out.trans (if_pos q0))
    have c0 : (ce == 0) = false := by simp [q0]
    clear q0 HX
    go_wp2_with fail
    with_reducible refine h1.mono ?_
    rintro e w2 ⟨rfl, hb⟩
    go_wp2
    go_ret
    exact ⟨(by rw [HF.out]; try rfl), HB2.out.trans (hb.mono HB2.out.size)⟩
  have HX := Lib.hid (HX.out.trans (if_neg (fun h => h q0)))
  have c0 : (ce == 0) = true := by simp [q0]
  clear q0
  go_wp2_with fail
  with_reducible refine h1.mono ?_
  rintro e w2 ⟨rfl, hb⟩
  have HO3 := Lib.hid (HO2.out.below hb HO2.out.lt)
  have HB3 := Lib.hid (HB2.out.trans (hb.mono HB2.out.size))
  have h2 := H2.out w2 HB3.out
  clear h1 H2 hb d0 d1 d2 d3 d4
  obtain ⟨d0, d1, d2, d3, d4⟩ := HO3.out.five
  by_cases q0 : ke = 0
  rotate_left
  · have HF := Lib.hid (HX.out.trans (if_pos q0))
    have k0 : (ke == 0) = false := by simp [q0]
    clear q0 HX
    go_wp2_with fail
    with_reducible refine h2.mono ?_
    rintro e w3 ⟨rfl, hb⟩
    go_wp2
    go_ret
    exact ⟨(by rw [HF.out]; try rfl), HB3.out.trans (hb.mono HB3.out.size)⟩
  have HX := Lib.hid (HX.out.trans (if_neg (fun h => h q0)))
  have k0 : (ke == 0) = true := by simp [q0]
  clear q0
  go_wp2_with fail
  with_reducible refine h2.mono ?_
  rintro e w3 ⟨rfl, hb⟩
  have HO4 := Lib.hid (HO3.out.below hb HO3.out.lt)
  have HB4 := Lib.hid (HB3.out.trans (hb.mono HB3.out.size))
  have h3 := H3.out w3 HB4.out
  clear h2 H3 hb d0 d1 d2 d3 d4
  obtain ⟨d0, d1, d2, d3, d4⟩ := HO4.out.five
  go_wp2_with fail
  with_reducible refine h3.mono ?_
  rintro e w4 ⟨rfl, hb⟩
  go_wp2
  go_ret
  exact ⟨(by rw [HX.out]; try rfl), HB4.out.trans (hb.mono HB4.out.size)⟩
end Go.Proofs.YteihjneeiojgaaaGreat
