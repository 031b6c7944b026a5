import Derived.Test.YthnmcpfmljibeaaGreatPNu
import Derived.WalkKit
import Derived.WalkSpells
import Derived.WalkLawsBesides
import Derived.Deep.QuietTactic
import Derived.BigQuiet
import Derived.Handy
import Derived.Lib.Hide
/-
  The reference's contradict. Conditions: valid values, lengths. (Written by mkPdNc.py.)
-/
namespace Go.Proofs.YthnmcpfmljibeaaGreat
set_option maxRecDepth 100000
set_option linter.unusedVariables false
set_option linter.unusedSimpArgs false
open Go.RowKit

theorem con_drop (k0 : Int) (all l : List Cnd) (k : Nat) (z : Cnd) (r : Int × Int) (h : l[k]? = some z) : conL k0 all (l.drop k) r = if z.v.1 ≠ k0 then true else if k0 = 2 ∧ (all.any fun x => x.v.1 == 2 && txtC z x) = true then true else conL k0 all (l.drop (k + 1)) (narR r z) := by
  obtain ⟨h1, rfl⟩ := List.getElem?_eq_some_iff.1 h
  rw [List.drop_eq_getElem_cons h1]
  rfl
theorem RdQ.atW {w W : World} {L : Nat} {ad : Addr} {n c : Nat} {zs : List Cnd} (h : RdQ w L w.heap.size (.slice (some ad) n c) zs) {k : Nat} {z : Cnd} (hk : zs[k]? = some z) (hB : Below w.heap.size w W) : ad.block < w.heap.size ∧
    W.cell? (ad.add (k * 5)) = some (.int .i64 z.op) ∧ W.cell? ⟨(ad.add (k * 5)).block, (ad.add (k * 5)).off + 1, none⟩ = some (.int .i64 z.col) ∧ W.cell? ⟨(ad.add (k * 5)).block, (ad.add (k * 5)).off + 2, none⟩ = some (.int .i64 z.v.1) ∧ W.cell? ⟨(ad.add (k * 5)).block, (ad.add (k * 5)).off + 3, none⟩ = some (.int .i64 z.v.2.1) ∧ W.cell? ⟨(ad.add (k * 5)).block, (ad.add (k * 5)).off + 4, none⟩ = some (.string z.v.2.2) := by
  obtain ⟨ad2, c2, hs, _, hab, y⟩ := (h.below hB).at k z hk
  injection hs with hs _ _
  injection hs with hs
  subst hs
  exact ⟨hab, y⟩
theorem RdQ.at0 {w W : World} {L : Nat} {ad : Addr} {n c : Nat} {zs : List Cnd} (h : RdQ w L w.heap.size (.slice (some ad) n c) zs) {z : Cnd} (hk : zs[0]? = some z) (hB : Below w.heap.size w W) : W.cell? ⟨ad.block, ad.off + 2, none⟩ = some (.int .i64 z.v.1) := by
  have hx := (h.atW hk hB).2.2.2.1
  rw [show ad.add (0 * 5) = ad by unfold Addr.add; simp] at hx
  exact hx
theorem any_take (zs : List Cnd) (f : Cnd → Bool) (j : Nat) (x : Cnd) (h : zs[j]? = some x) : (zs.take (j + 1)).any f = ((zs.take j).any f || f x) := by
  rw [List.take_add_one, h, List.any_append]
  simp
theorem any_has (zs : List Cnd) (f : Cnd → Bool) (j : Nat) (x : Cnd) (h : zs[j]? = some x) (hf : f x = true) : zs.any f = true := List.any_eq_true.2 ⟨x, List.mem_of_getElem? h, hf⟩
set_option maxRecDepth 100000 in
set_option maxHeartbeats 6400000 in
theorem rCon_nil (A : Option Addr) (c : Nat) (w : World) : Calls Tryz.prog 70 #[.slice A 0 c] w fun e' w' => e' = .returned (.bool false) ∧ Below w.heap.size w w' := by
  have HB := Lib.hid (bel_mk w (.cells #[.int .i64 (-1125899906842624), .int .i64 1125899906842624] 92))
  go_enter Tryz.func70, Tryz.ntmps70
  go_wp2_with fail
  go_loopw [4] (fun i wr => i = .int .i64 0 ∧ wr = w.alloc (.cells #[.int .i64 (-1125899906842624), .int .i64 1125899906842624] 92)) (fun _ _ => 0)
  case atStart => exact ⟨rfl, rfl⟩
  case round =>
    obtain ⟨rfl, rfl⟩ := hrel
    go_wp2
    go_ret
    exact ⟨rfl, HB.out⟩
set_option maxRecDepth 100000 in
set_option maxHeartbeats 12800000 in
theorem rCon_ne (ad : Addr) (c : Nat) (zs : List Cnd) (k0 : Int) (c0 : Cnd) (w : World) (L : Nat) (h : RdQ w L w.heap.size (.slice (some ad) zs.length c) zs) (h0 : zs[0]? = some c0) (hk : c0.v.1 = k0) (hc : conR zs = conL k0 zs (zs.drop 0) (iniR k0)) (hv : ∀ z ∈ zs, vldP z.v = true) :
    Calls Tryz.prog 70 #[.slice (some ad) zs.length c] w fun e' w' => e' = .returned (.bool (conR zs)) ∧ Below w.heap.size w w' := by
  have HQ := Lib.hid h
  have HC := Lib.hid hc
  have HV := Lib.hid hv
  have HB := Lib.hid (bel_mk w (.cells #[.int .i64 (-1125899906842624), .int .i64 1125899906842624] 92))
  have HR := Lib.hid (Own.new w 92 #[.int .i64 (-1125899906842624), .int .i64 1125899906842624])
  have hzl : zs.length ≤ 1099511627776 := by obtain ⟨_, _, _, h1, _⟩ := h; exact h1
  have hz0 : 0 < zs.length := by rcases Nat.eq_zero_or_pos zs.length with h1 | h1; (rw [List.getElem?_eq_none (by omega)] at h0; cases h0); exact h1
  have H0 := Lib.hid (fun (W : World) (hB : Below w.heap.size w W) => show W.cell? ⟨ad.block, ad.off + 2, none⟩ = some (.int .i64 k0) from by rw [h.at0 h0 hB, hk])
  have HK0 := Lib.hid (show ∀ k (z : Cnd), zs[k]? = some z → k = 0 → z.v.1 = k0 from fun k z h1 h2 => by rw [h2, h0] at h1; injection h1 with h1; rw [← h1]; exact hk)
  clear h hc hv h0 hk
  go_enter Tryz.func70, Tryz.ntmps70
  go_wp2_with fail
  go_loopw [4] (fun i wr => ∃ (k : Nat) (r : Int × Int), k ≤ zs.length ∧ i = .int .i64 k ∧ Hid ((k = 0 ∧ r = (-1125899906842624, 1125899906842624)) ∨ (0 < k ∧ conR zs = conL k0 zs (zs.drop k) r)) ∧ Hid (Own wr w.heap.size 92 #[.int .i64 r.1, .int .i64 r.2]) ∧ Below w.heap.size w wr) (fun i _ => zs.length - (intOf i).toNat)
  case atStart => exact ⟨0, (-1125899906842624, 1125899906842624), Nat.zero_le _, rfl, Lib.hid (.inl ⟨rfl, rfl⟩), HR, HB.out⟩
  case round =>
    clear HB HR
    obtain ⟨k, ⟨r1, r2⟩, hk, rfl, HP, HW, hbr⟩ := hrel
    dsimp only at HW
    have hbz := hbr.size
    have hgl := HW.out.lt
    by_cases hlt : k < zs.length
    · have hki : (k : Int) < zs.length := by omega
      have hkl : (k : Int) + 1 ≤ 1099511627776 := by omega
      have hzk := List.getElem?_eq_getElem hlt
      have hvz := vld_rng (HV.out _ (List.getElem_mem hlt))
      have hk0 := HK0.out k _ hzk
      have hcd := fun r => con_drop k0 zs zs k _ r hzk
      have HAT := Lib.hid (fun (W : World) (hB : Below w.heap.size w W) => HQ.out.atW hzk hB)
      generalize zs[k] = z at *
      have HN := Lib.hid (fun r W => rNar_any r z hvz W)
      have HTX := Lib.hid (fun x W => rTxt_any z x W)
      have HZF := Lib.hid (show z = z from rfl)
      have f2 := fun p : After wr => (HAT.out p.w (hbr.trans (p.h.mono hbz))).2.2.2.1
      have g2 := fun p : After wr => H0.out p.w (hbr.trans (p.h.mono hbz))
      have hab := (HAT.out wr hbr).1
      clear hzk hvz
      by_cases hkk : z.v.1 = k0
      · have HCD := Lib.hid (show ∀ r, conL k0 zs (zs.drop k) r = if k0 = 2 ∧ (zs.any fun x => x.v.1 == 2 && txtC z x) = true then true else conL k0 zs (zs.drop (k + 1)) (narR r z) from fun r => by rw [hcd r, if_neg (by simp [hkk])])
        rw [hkk] at f2
        have HKK := Lib.hid hkk
        clear hcd hkk hk0
        go_wp2
        (refine wp_region_after (by kernel_rfl) (by kernel_rfl) ?_; (repeat (go_big_quiet_step (fail))); refine wpQuiet_nil ?_; intro wq hw0; obtain ⟨⟨wq0, hbq⟩, hw1⟩ := hw0; subst hw1; (try dsimp only))
        have HBq := Lib.hid (hbr.trans (hbq.mono hbz))
        have HRq := Lib.hid (HW.out.below hbq HW.out.lt)
        have y2 := (HAT.out wq HBq.out).2.2.2.1
        rw [HKK.out] at y2
        clear f2 g2 hbq HW hbr hbz hgl
        clear wr
        by_cases hz3 : k = 0
        · have hkb : ((k : Int) == 0) = true := by rw [beq_iff_eq]; omega
          by_cases hk3 : k0 = 3
          · have HP2 := Lib.hid (show conR zs = if k0 = 2 ∧ (zs.any fun x => x.v.1 == 2 && txtC z x) = true then true else conL k0 zs (zs.drop (k + 1)) (narR (0, 1) z) from by
              have h := HC.out
              have h2 : zs.drop 0 = zs.drop k := by rw [hz3]
              rw [h2, HCD.out] at h
              rw [h, show iniR k0 = (0, 1) from by rw [hk3]; rfl])
            have hk3b : (k0 == 3) = true := by rw [beq_iff_eq]; exact hk3
            have q0 := HRq.out.cell 0
            have q1 := HRq.out.cell 1
            have m0 := HRq.out.free 0
            have m1 := HRq.out.free 1
            have hx := (HRq.out.store 0 (.int .i64 0)).store 1 (.int .i64 1)
            simp only [List.setIfInBounds_toArray, List.set_cons_zero, List.set_cons_succ] at hx
            have HBa := Lib.hid ((HBq.out.setCell (p := ⟨w.heap.size, 0, none⟩) (Nat.le_refl _) (.int .i64 0)).setCell (p := ⟨w.heap.size, 1, none⟩) (Nat.le_refl _) (.int .i64 1))
            have HRa := Lib.hid hx
            clear hx HRq HBq HP HC HCD hz3 hk3
            go_wp2_with fail
            clear q0 q1 m0 m1 y2
            have HX : ∃ ra rb, Hid (Own ((wq.setCell ⟨w.heap.size, 0, none⟩ (.int .i64 0)).setCell ⟨w.heap.size, 1, none⟩ (.int .i64 1)) w.heap.size 92 #[.int .i64 ra, .int .i64 rb]) ∧ Hid (conR zs = if k0 = 2 ∧ (zs.any fun x => x.v.1 == 2 && txtC z x) = true then true else conL k0 zs (zs.drop (k + 1)) (narR (ra, rb) z)) := ⟨0, 1, HRa, HP2⟩
            clear HRa HP2
            generalize (wq.setCell ⟨w.heap.size, 0, none⟩ (.int .i64 0)).setCell ⟨w.heap.size, 1, none⟩ (.int .i64 1) = wa at *
            clear wq hkb hk3b
            obtain ⟨ra, rb, HRa, HPa⟩ := HX
            generalize hnr : narR (ra, rb) z = nr at *
            have HNa := Lib.hid (fun W => by have h := HN.out (ra, rb) W; rw [hnr] at h; exact h)
            clear hnr HN
            obtain ⟨n1, n2⟩ := nr
            dsimp only at HNa
            obtain ⟨_, z0, z1, z2, z3, z4⟩ := HAT.out wa HBa.out
            rw [HKK.out] at z2
            have q0 := HRa.out.cell 0
            have q1 := HRa.out.cell 1
            have m0 := HRa.out.free 0
            have m1 := HRa.out.free 1
            have HR3 := Lib.hid (show Own wa.drew w.heap.size 92 #[.int .i64 ra, .int .i64 rb] from HRa.out)
            have HB3 := Lib.hid (HBa.out.drew)
            rw [HKK.out] at HNa
            clear HRa HBa
            go_region_law (first | (go_simp; go_at_call 121; with_reducible refine (HNa.out _).mono ?_; rintro e w4 ⟨rfl, hb4⟩; have HR4 := Lib.hid (HR3.out.below hb4 HR3.out.lt); have HB4 := Lib.hid (HB3.out.trans (hb4.mono HB3.out.size)); have s0 := HR4.out.cell 0; have s1 := HR4.out.cell 1; have t0 := HR4.out.free 0; have t1 := HR4.out.free 1; clear hb4))
            all_goals
              have hx := (HR4.out.store 0 (.int .i64 n1)).store 1 (.int .i64 n2)
              simp only [List.setIfInBounds_toArray, List.set_cons_zero, List.set_cons_succ] at hx
              have HX := Lib.hid hx
              have HB5 := Lib.hid ((HB4.out.setCell (p := ⟨w.heap.size, 0, none⟩) (Nat.le_refl _) (.int .i64 n1)).setCell (p := ⟨w.heap.size, 1, none⟩) (Nat.le_refl _) (.int .i64 n2))
              clear hx HR4 HB4 s0 s1 t0 t1 q0 q1 m0 m1 z0 z1 z2 z3 z4 HR3 HB3 HNa
              generalize (w4.setCell ⟨w.heap.size, 0, none⟩ (.int .i64 n1)).setCell ⟨w.heap.size, 1, none⟩ (.int .i64 n2) = wc at *
              clear w4
              go_wp2_with fail
              go_loopw [5] (fun i wr => ∃ j : Nat, j ≤ zs.length ∧ i = .int .i64 j ∧ Hid (k0 = 2 → (zs.take j).any (fun x => x.v.1 == 2 && txtC z x) = false) ∧ Below wc.heap.size wc wr) (fun i _ => zs.length - (intOf i).toNat)
              case atStart => exact ⟨0, Nat.zero_le _, rfl, Lib.hid (fun _ => rfl), Below.refl _ _⟩
              case round =>
                obtain ⟨j, hj, rfl, HJ, hbr⟩ := hrel
                have hbz := hbr.size
                have HBr := Lib.hid (HB5.out.trans (hbr.mono HB5.out.size))
                by_cases hjl : j < zs.length
                · have hji : (j : Int) < zs.length := by omega
                  have hjs : (j : Int) + 1 ≤ 1099511627776 := by omega
                  have hzj := List.getElem?_eq_getElem hjl
                  have hat := any_take zs (fun x => x.v.1 == 2 && txtC z x) j _ hzj
                  have hah := any_has zs (fun x => x.v.1 == 2 && txtC z x) j _ hzj
                  have HAJ := Lib.hid (fun (W : World) (hB : Below w.heap.size w W) => HQ.out.atW hzj hB)
                  generalize zs[j] = x at *
                  have g2 := fun p : After wr => H0.out p.w (HBr.out.trans (p.h.mono HBr.out.size))
                  have f0 := fun p : After wr => (HAT.out p.w (HBr.out.trans (p.h.mono HBr.out.size))).2.1
                  have f1 := fun p : After wr => (HAT.out p.w (HBr.out.trans (p.h.mono HBr.out.size))).2.2.1
                  have f2 := fun p : After wr => (HAT.out p.w (HBr.out.trans (p.h.mono HBr.out.size))).2.2.2.1
                  have f3 := fun p : After wr => (HAT.out p.w (HBr.out.trans (p.h.mono HBr.out.size))).2.2.2.2.1
                  have f4 := fun p : After wr => (HAT.out p.w (HBr.out.trans (p.h.mono HBr.out.size))).2.2.2.2.2
                  have e0 := fun p : After wr => (HAJ.out p.w (HBr.out.trans (p.h.mono HBr.out.size))).2.1
                  have e1 := fun p : After wr => (HAJ.out p.w (HBr.out.trans (p.h.mono HBr.out.size))).2.2.1
                  have e2 := fun p : After wr => (HAJ.out p.w (HBr.out.trans (p.h.mono HBr.out.size))).2.2.2.1
                  have e3 := fun p : After wr => (HAJ.out p.w (HBr.out.trans (p.h.mono HBr.out.size))).2.2.2.2.1
                  have e4 := fun p : After wr => (HAJ.out p.w (HBr.out.trans (p.h.mono HBr.out.size))).2.2.2.2.2
                  have HT := Lib.hid (fun W => HTX.out x W)
                  have HAT2 := Lib.hid hat
                  have HAH := Lib.hid hah
                  clear hat hah hzj
                  by_cases h2 : k0 = 2
                  · subst h2
                    by_cases hx2 : x.v.1 = 2
                    · rw [hx2] at e2 HT
                      rw [HKK.out] at f2 HT
                      cases htx : txtC z x
                      · rw [htx] at HT
                        have HJ2 := Lib.hid (show (2 : Int) = 2 → (zs.take (j + 1)).any (fun x => x.v.1 == 2 && txtC z x) = false from fun _ => by rw [HAT2.out, HJ.out rfl]; simp [htx])
                        clear HJ htx
                        go_wp2
                        (refine wp_region_after (by kernel_rfl) (by kernel_rfl) ?_; (repeat (go_big_quiet_step ((go_at_call 122; exact calls_after (HT.out _))))); refine wpQuiet_nil ?_; intro wq hw0; obtain ⟨⟨wq0, hbq⟩, hw1⟩ := hw0; subst hw1; (try dsimp only))
                        go_wp2
                        go_roundw
                        case rel => exact ⟨j + 1, by omega, by go_num, HJ2, hbr.trans (hbq.mono hbz)⟩
                        case measure => simp [intOf]; omega
                      · rw [htx] at HT
                        have hcr : conR zs = true := by rw [HPa.out, if_pos ⟨rfl, HAH.out (by simp [hx2, htx])⟩]
                        have HCR := Lib.hid hcr
                        clear HJ htx hcr HPa
                        go_wp2
                        (refine wp_region_after (by kernel_rfl) (by kernel_rfl) ?_; (repeat (go_big_quiet_step ((go_at_call 122; exact calls_after (HT.out _))))); refine wpQuiet_nil ?_; intro wq hw0; obtain ⟨⟨wq0, hbq⟩, hw1⟩ := hw0; subst hw1; (try dsimp only))
                        go_wp2
                        go_ret
                        exact ⟨by rw [HCR.out]; rfl, HBr.out.trans (hbq.mono HBr.out.size)⟩
                    · have hx2b : (x.v.1 == 2) = false := by rw [beq_eq_false_iff_ne]; exact hx2
                      have HJ2 := Lib.hid (show (2 : Int) = 2 → (zs.take (j + 1)).any (fun x => x.v.1 == 2 && txtC z x) = false from fun _ => by rw [HAT2.out, HJ.out rfl]; simp [hx2])
                      clear HJ HT f0 f1 f3 f4 e0 e1 e3 e4 hx2
                      go_wp2
                      (refine wp_region_after (by kernel_rfl) (by kernel_rfl) ?_; (repeat (go_big_quiet_step (fail))); refine wpQuiet_nil ?_; intro wq hw0; obtain ⟨⟨wq0, hbq⟩, hw1⟩ := hw0; subst hw1; (try dsimp only))
                      go_wp2
                      go_roundw
                      case rel => exact ⟨j + 1, by omega, by go_num, HJ2, hbr.trans (hbq.mono hbz)⟩
                      case measure => simp [intOf]; omega
                  · have h2b : (k0 == 2) = false := by rw [beq_eq_false_iff_ne]; exact h2
                    have HJ2 := Lib.hid (show k0 = 2 → (zs.take (j + 1)).any (fun x => x.v.1 == 2 && txtC z x) = false from fun h => absurd h h2)
                    clear HJ HT f0 f1 f2 f3 f4 e0 e1 e2 e3 e4 h2
                    go_wp2
                    (refine wp_region_after (by kernel_rfl) (by kernel_rfl) ?_; (repeat (go_big_quiet_step (fail))); refine wpQuiet_nil ?_; intro wq hw0; obtain ⟨⟨wq0, hbq⟩, hw1⟩ := hw0; subst hw1; (try dsimp only))
                    go_wp2
                    go_roundw
                    case rel => exact ⟨j + 1, by omega, by go_num, HJ2, hbr.trans (hbq.mono hbz)⟩
                    case measure => simp [intOf]; omega
                · have hji : ¬ (j : Int) < zs.length := by omega
                  have HPn := Lib.hid (show conR zs = conL k0 zs (zs.drop (k + 1)) (n1, n2) from by
                    rw [HPa.out, if_neg]
                    rintro ⟨h1, h2⟩
                    have h3 := HJ.out h1
                    rw [List.take_of_length_le (by omega), h2] at h3
                    cases h3)
                  have HXr := Lib.hid (HX.out.below hbr HX.out.lt)
                  clear HPa HJ HX HB5 hbr hbz
                  go_wp2
                  go_roundw
                  case rel => exact ⟨k + 1, (n1, n2), by omega, by go_num, Lib.hid (.inr ⟨by omega, HPn.out⟩), HXr, HBr.out⟩
                  case measure => simp [intOf]; omega
          · have HP2 := Lib.hid (show conR zs = if k0 = 2 ∧ (zs.any fun x => x.v.1 == 2 && txtC z x) = true then true else conL k0 zs (zs.drop (k + 1)) (narR (r1, r2) z) from by
              have h := HC.out
              have h2 : zs.drop 0 = zs.drop k := by rw [hz3]
              rw [h2, HCD.out] at h
              have hr : ((r1, r2) : Int × Int) = iniR k0 := by
                rcases HP.out with ⟨_, h⟩ | ⟨h, _⟩
                · rw [h]; unfold iniR; rw [if_neg hk3]
                · omega
              rw [h, hr])
            have hk3b : (k0 == 3) = false := by rw [beq_eq_false_iff_ne]; exact hk3
            clear HP HC HCD hz3 hk3
            go_wp2_with fail
            have HX : ∃ ra rb, Hid (Own wq w.heap.size 92 #[.int .i64 ra, .int .i64 rb]) ∧ Hid (conR zs = if k0 = 2 ∧ (zs.any fun x => x.v.1 == 2 && txtC z x) = true then true else conL k0 zs (zs.drop (k + 1)) (narR (ra, rb) z)) := ⟨r1, r2, HRq, HP2⟩
            have HBa := HBq
            clear HRq HP2 HBq y2
            generalize wq = wa at *
            clear hkb hk3b
            obtain ⟨ra, rb, HRa, HPa⟩ := HX
            generalize hnr : narR (ra, rb) z = nr at *
            have HNa := Lib.hid (fun W => by have h := HN.out (ra, rb) W; rw [hnr] at h; exact h)
            clear hnr HN
            obtain ⟨n1, n2⟩ := nr
            dsimp only at HNa
            obtain ⟨_, z0, z1, z2, z3, z4⟩ := HAT.out wa HBa.out
            rw [HKK.out] at z2
            have q0 := HRa.out.cell 0
            have q1 := HRa.out.cell 1
            have m0 := HRa.out.free 0
            have m1 := HRa.out.free 1
            have HR3 := Lib.hid (show Own wa.drew w.heap.size 92 #[.int .i64 ra, .int .i64 rb] from HRa.out)
            have HB3 := Lib.hid (HBa.out.drew)
            rw [HKK.out] at HNa
            clear HRa HBa
            go_region_law (first | (go_simp; go_at_call 121; with_reducible refine (HNa.out _).mono ?_; rintro e w4 ⟨rfl, hb4⟩; have HR4 := Lib.hid (HR3.out.below hb4 HR3.out.lt); have HB4 := Lib.hid (HB3.out.trans (hb4.mono HB3.out.size)); have s0 := HR4.out.cell 0; have s1 := HR4.out.cell 1; have t0 := HR4.out.free 0; have t1 := HR4.out.free 1; clear hb4))
            all_goals
              have hx := (HR4.out.store 0 (.int .i64 n1)).store 1 (.int .i64 n2)
              simp only [List.setIfInBounds_toArray, List.set_cons_zero, List.set_cons_succ] at hx
              have HX := Lib.hid hx
              have HB5 := Lib.hid ((HB4.out.setCell (p := ⟨w.heap.size, 0, none⟩) (Nat.le_refl _) (.int .i64 n1)).setCell (p := ⟨w.heap.size, 1, none⟩) (Nat.le_refl _) (.int .i64 n2))
              clear hx HR4 HB4 s0 s1 t0 t1 q0 q1 m0 m1 z0 z1 z2 z3 z4 HR3 HB3 HNa
              generalize (w4.setCell ⟨w.heap.size, 0, none⟩ (.int .i64 n1)).setCell ⟨w.heap.size, 1, none⟩ (.int .i64 n2) = wc at *
              clear w4
              go_wp2_with fail
              go_loopw [5] (fun i wr => ∃ j : Nat, j ≤ zs.length ∧ i = .int .i64 j ∧ Hid (k0 = 2 → (zs.take j).any (fun x => x.v.1 == 2 && txtC z x) = false) ∧ Below wc.heap.size wc wr) (fun i _ => zs.length - (intOf i).toNat)
              case atStart => exact ⟨0, Nat.zero_le _, rfl, Lib.hid (fun _ => rfl), Below.refl _ _⟩
              case round =>
                obtain ⟨j, hj, rfl, HJ, hbr⟩ := hrel
                have hbz := hbr.size
                have HBr := Lib.hid (HB5.out.trans (hbr.mono HB5.out.size))
                by_cases hjl : j < zs.length
                · have hji : (j : Int) < zs.length := by omega
                  have hjs : (j : Int) + 1 ≤ 1099511627776 := by omega
                  have hzj := List.getElem?_eq_getElem hjl
                  have hat := any_take zs (fun x => x.v.1 == 2 && txtC z x) j _ hzj
                  have hah := any_has zs (fun x => x.v.1 == 2 && txtC z x) j _ hzj
                  have HAJ := Lib.hid (fun (W : World) (hB : Below w.heap.size w W) => HQ.out.atW hzj hB)
                  generalize zs[j] = x at *
                  have g2 := fun p : After wr => H0.out p.w (HBr.out.trans (p.h.mono HBr.out.size))
                  have f0 := fun p : After wr => (HAT.out p.w (HBr.out.trans (p.h.mono HBr.out.size))).2.1
                  have f1 := fun p : After wr => (HAT.out p.w (HBr.out.trans (p.h.mono HBr.out.size))).2.2.1
                  have f2 := fun p : After wr => (HAT.out p.w (HBr.out.trans (p.h.mono HBr.out.size))).2.2.2.1
                  have f3 := fun p : After wr => (HAT.out p.w (HBr.out.trans (p.h.mono HBr.out.size))).2.2.2.2.1
                  have f4 := fun p : After wr => (HAT.out p.w (HBr.out.trans (p.h.mono HBr.out.size))).2.2.2.2.2
                  have e0 := fun p : After wr => (HAJ.out p.w (HBr.out.trans (p.h.mono HBr.out.size))).2.1
                  have e1 := fun p : After wr => (HAJ.out p.w (HBr.out.trans (p.h.mono HBr.out.size))).2.2.1
                  have e2 := fun p : After wr => (HAJ.out p.w (HBr.out.trans (p.h.mono HBr.out.size))).2.2.2.1
                  have e3 := fun p : After wr => (HAJ.out p.w (HBr.out.trans (p.h.mono HBr.out.size))).2.2.2.2.1
                  have e4 := fun p : After wr => (HAJ.out p.w (HBr.out.trans (p.h.mono HBr.out.size))).2.2.2.2.2
                  have HT := Lib.hid (fun W => HTX.out x W)
                  have HAT2 := Lib.hid hat
                  have HAH := Lib.hid hah
                  clear hat hah hzj
                  by_cases h2 : k0 = 2
                  · subst h2
                    by_cases hx2 : x.v.1 = 2
                    · rw [hx2] at e2 HT
                      rw [HKK.out] at f2 HT
                      cases htx : txtC z x
                      · rw [htx] at HT
                        have HJ2 := Lib.hid (show (2 : Int) = 2 → (zs.take (j + 1)).any (fun x => x.v.1 == 2 && txtC z x) = false from fun _ => by rw [HAT2.out, HJ.out rfl]; simp [htx])
                        clear HJ htx
                        go_wp2
                        (refine wp_region_after (by kernel_rfl) (by kernel_rfl) ?_; (repeat (go_big_quiet_step ((go_at_call 122; exact calls_after (HT.out _))))); refine wpQuiet_nil ?_; intro wq hw0; obtain ⟨⟨wq0, hbq⟩, hw1⟩ := hw0; subst hw1; (try dsimp only))
                        go_wp2
                        go_roundw
                        case rel => exact ⟨j + 1, by omega, by go_num, HJ2, hbr.trans (hbq.mono hbz)⟩
                        case measure => simp [intOf]; omega
                      · rw [htx] at HT
                        have hcr : conR zs = true := by rw [HPa.out, if_pos ⟨rfl, HAH.out (by simp [hx2, htx])⟩]
                        have HCR := Lib.hid hcr
                        clear HJ htx hcr HPa
                        go_wp2
                        (refine wp_region_after (by kernel_rfl) (by kernel_rfl) ?_; (repeat (go_big_quiet_step ((go_at_call 122; exact calls_after (HT.out _))))); refine wpQuiet_nil ?_; intro wq hw0; obtain ⟨⟨wq0, hbq⟩, hw1⟩ := hw0; subst hw1; (try dsimp only))
                        go_wp2
                        go_ret
                        exact ⟨by rw [HCR.out]; rfl, HBr.out.trans (hbq.mono HBr.out.size)⟩
                    · have hx2b : (x.v.1 == 2) = false := by rw [beq_eq_false_iff_ne]; exact hx2
                      have HJ2 := Lib.hid (show (2 : Int) = 2 → (zs.take (j + 1)).any (fun x => x.v.1 == 2 && txtC z x) = false from fun _ => by rw [HAT2.out, HJ.out rfl]; simp [hx2])
                      clear HJ HT f0 f1 f3 f4 e0 e1 e3 e4 hx2
                      go_wp2
                      (refine wp_region_after (by kernel_rfl) (by kernel_rfl) ?_; (repeat (go_big_quiet_step (fail))); refine wpQuiet_nil ?_; intro wq hw0; obtain ⟨⟨wq0, hbq⟩, hw1⟩ := hw0; subst hw1; (try dsimp only))
                      go_wp2
                      go_roundw
                      case rel => exact ⟨j + 1, by omega, by go_num, HJ2, hbr.trans (hbq.mono hbz)⟩
                      case measure => simp [intOf]; omega
                  · have h2b : (k0 == 2) = false := by rw [beq_eq_false_iff_ne]; exact h2
                    have HJ2 := Lib.hid (show k0 = 2 → (zs.take (j + 1)).any (fun x => x.v.1 == 2 && txtC z x) = false from fun h => absurd h h2)
                    clear HJ HT f0 f1 f2 f3 f4 e0 e1 e2 e3 e4 h2
                    go_wp2
                    (refine wp_region_after (by kernel_rfl) (by kernel_rfl) ?_; (repeat (go_big_quiet_step (fail))); refine wpQuiet_nil ?_; intro wq hw0; obtain ⟨⟨wq0, hbq⟩, hw1⟩ := hw0; subst hw1; (try dsimp only))
                    go_wp2
                    go_roundw
                    case rel => exact ⟨j + 1, by omega, by go_num, HJ2, hbr.trans (hbq.mono hbz)⟩
                    case measure => simp [intOf]; omega
                · have hji : ¬ (j : Int) < zs.length := by omega
                  have HPn := Lib.hid (show conR zs = conL k0 zs (zs.drop (k + 1)) (n1, n2) from by
                    rw [HPa.out, if_neg]
                    rintro ⟨h1, h2⟩
                    have h3 := HJ.out h1
                    rw [List.take_of_length_le (by omega), h2] at h3
                    cases h3)
                  have HXr := Lib.hid (HX.out.below hbr HX.out.lt)
                  clear HPa HJ HX HB5 hbr hbz
                  go_wp2
                  go_roundw
                  case rel => exact ⟨k + 1, (n1, n2), by omega, by go_num, Lib.hid (.inr ⟨by omega, HPn.out⟩), HXr, HBr.out⟩
                  case measure => simp [intOf]; omega
        · have HP2 := Lib.hid (show conR zs = if k0 = 2 ∧ (zs.any fun x => x.v.1 == 2 && txtC z x) = true then true else conL k0 zs (zs.drop (k + 1)) (narR (r1, r2) z) from by
            rcases HP.out with ⟨h, _⟩ | ⟨_, h⟩
            · exact absurd h hz3
            · rw [h, HCD.out])
          have hkb : ((k : Int) == 0) = false := by rw [beq_eq_false_iff_ne]; omega
          clear HP HC HCD hz3
          by_cases hk3 : k0 = 3
          all_goals
            first
            | (have hk3b : (k0 == 3) = true := by rw [beq_iff_eq]; exact hk3)
            | (have hk3b : (k0 == 3) = false := by rw [beq_eq_false_iff_ne]; exact hk3)
            clear hk3
            go_wp2_with fail
            have HX : ∃ ra rb, Hid (Own wq w.heap.size 92 #[.int .i64 ra, .int .i64 rb]) ∧ Hid (conR zs = if k0 = 2 ∧ (zs.any fun x => x.v.1 == 2 && txtC z x) = true then true else conL k0 zs (zs.drop (k + 1)) (narR (ra, rb) z)) := ⟨r1, r2, HRq, HP2⟩
            have HBa := HBq
            clear HRq HP2 HBq y2
            generalize wq = wa at *
            clear hkb hk3b
            obtain ⟨ra, rb, HRa, HPa⟩ := HX
            generalize hnr : narR (ra, rb) z = nr at *
            have HNa := Lib.hid (fun W => by have h := HN.out (ra, rb) W; rw [hnr] at h; exact h)
            clear hnr HN
            obtain ⟨n1, n2⟩ := nr
            dsimp only at HNa
            obtain ⟨_, z0, z1, z2, z3, z4⟩ := HAT.out wa HBa.out
            rw [HKK.out] at z2
            have q0 := HRa.out.cell 0
            have q1 := HRa.out.cell 1
            have m0 := HRa.out.free 0
            have m1 := HRa.out.free 1
            have HR3 := Lib.hid (show Own wa.drew w.heap.size 92 #[.int .i64 ra, .int .i64 rb] from HRa.out)
            have HB3 := Lib.hid (HBa.out.drew)
            rw [HKK.out] at HNa
            clear HRa HBa
            go_region_law (first | (go_simp; go_at_call 121; with_reducible refine (HNa.out _).mono ?_; rintro e w4 ⟨rfl, hb4⟩; have HR4 := Lib.hid (HR3.out.below hb4 HR3.out.lt); have HB4 := Lib.hid (HB3.out.trans (hb4.mono HB3.out.size)); have s0 := HR4.out.cell 0; have s1 := HR4.out.cell 1; have t0 := HR4.out.free 0; have t1 := HR4.out.free 1; clear hb4))
            all_goals
              have hx := (HR4.out.store 0 (.int .i64 n1)).store 1 (.int .i64 n2)
              simp only [List.setIfInBounds_toArray, List.set_cons_zero, List.set_cons_succ] at hx
              have HX := Lib.hid hx
              have HB5 := Lib.hid ((HB4.out.setCell (p := ⟨w.heap.size, 0, none⟩) (Nat.le_refl _) (.int .i64 n1)).setCell (p := ⟨w.heap.size, 1, none⟩) (Nat.le_refl _) (.int .i64 n2))
              clear hx HR4 HB4 s0 s1 t0 t1 q0 q1 m0 m1 z0 z1 z2 z3 z4 HR3 HB3 HNa
              generalize (w4.setCell ⟨w.heap.size, 0, none⟩ (.int .i64 n1)).setCell ⟨w.heap.size, 1, none⟩ (.int .i64 n2) = wc at *
              clear w4
              go_wp2_with fail
              go_loopw [5] (fun i wr => ∃ j : Nat, j ≤ zs.length ∧ i = .int .i64 j ∧ Hid (k0 = 2 → (zs.take j).any (fun x => x.v.1 == 2 && txtC z x) = false) ∧ Below wc.heap.size wc wr) (fun i _ => zs.length - (intOf i).toNat)
              case atStart => exact ⟨0, Nat.zero_le _, rfl, Lib.hid (fun _ => rfl), Below.refl _ _⟩
              case round =>
                obtain ⟨j, hj, rfl, HJ, hbr⟩ := hrel
                have hbz := hbr.size
                have HBr := Lib.hid (HB5.out.trans (hbr.mono HB5.out.size))
                by_cases hjl : j < zs.length
                · have hji : (j : Int) < zs.length := by omega
                  have hjs : (j : Int) + 1 ≤ 1099511627776 := by omega
                  have hzj := List.getElem?_eq_getElem hjl
                  have hat := any_take zs (fun x => x.v.1 == 2 && txtC z x) j _ hzj
                  have hah := any_has zs (fun x => x.v.1 == 2 && txtC z x) j _ hzj
                  have HAJ := Lib.hid (fun (W : World) (hB : Below w.heap.size w W) => HQ.out.atW hzj hB)
                  generalize zs[j] = x at *
                  have g2 := fun p : After wr => H0.out p.w (HBr.out.trans (p.h.mono HBr.out.size))
                  have f0 := fun p : After wr => (HAT.out p.w (HBr.out.trans (p.h.mono HBr.out.size))).2.1
                  have f1 := fun p : After wr => (HAT.out p.w (HBr.out.trans (p.h.mono HBr.out.size))).2.2.1
                  have f2 := fun p : After wr => (HAT.out p.w (HBr.out.trans (p.h.mono HBr.out.size))).2.2.2.1
                  have f3 := fun p : After wr => (HAT.out p.w (HBr.out.trans (p.h.mono HBr.out.size))).2.2.2.2.1
                  have f4 := fun p : After wr => (HAT.out p.w (HBr.out.trans (p.h.mono HBr.out.size))).2.2.2.2.2
                  have e0 := fun p : After wr => (HAJ.out p.w (HBr.out.trans (p.h.mono HBr.out.size))).2.1
                  have e1 := fun p : After wr => (HAJ.out p.w (HBr.out.trans (p.h.mono HBr.out.size))).2.2.1
                  have e2 := fun p : After wr => (HAJ.out p.w (HBr.out.trans (p.h.mono HBr.out.size))).2.2.2.1
                  have e3 := fun p : After wr => (HAJ.out p.w (HBr.out.trans (p.h.mono HBr.out.size))).2.2.2.2.1
                  have e4 := fun p : After wr => (HAJ.out p.w (HBr.out.trans (p.h.mono HBr.out.size))).2.2.2.2.2
                  have HT := Lib.hid (fun W => HTX.out x W)
                  have HAT2 := Lib.hid hat
                  have HAH := Lib.hid hah
                  clear hat hah hzj
                  by_cases h2 : k0 = 2
                  · subst h2
                    by_cases hx2 : x.v.1 = 2
                    · rw [hx2] at e2 HT
                      rw [HKK.out] at f2 HT
                      cases htx : txtC z x
                      · rw [htx] at HT
                        have HJ2 := Lib.hid (show (2 : Int) = 2 → (zs.take (j + 1)).any (fun x => x.v.1 == 2 && txtC z x) = false from fun _ => by rw [HAT2.out, HJ.out rfl]; simp [htx])
                        clear HJ htx
                        go_wp2
                        (refine wp_region_after (by kernel_rfl) (by kernel_rfl) ?_; (repeat (go_big_quiet_step ((go_at_call 122; exact calls_after (HT.out _))))); refine wpQuiet_nil ?_; intro wq hw0; obtain ⟨⟨wq0, hbq⟩, hw1⟩ := hw0; subst hw1; (try dsimp only))
                        go_wp2
                        go_roundw
                        case rel => exact ⟨j + 1, by omega, by go_num, HJ2, hbr.trans (hbq.mono hbz)⟩
                        case measure => simp [intOf]; omega
                      · rw [htx] at HT
                        have hcr : conR zs = true := by rw [HPa.out, if_pos ⟨rfl, HAH.out (by simp [hx2, htx])⟩]
                        have HCR := Lib.hid hcr
                        clear HJ htx hcr HPa
                        go_wp2
                        (refine wp_region_after (by kernel_rfl) (by kernel_rfl) ?_; (repeat (go_big_quiet_step ((go_at_call 122; exact calls_after (HT.out _))))); refine wpQuiet_nil ?_; intro wq hw0; obtain ⟨⟨wq0, hbq⟩, hw1⟩ := hw0; subst hw1; (try dsimp only))
                        go_wp2
                        go_ret
                        exact ⟨by rw [HCR.out]; rfl, HBr.out.trans (hbq.mono HBr.out.size)⟩
                    · have hx2b : (x.v.1 == 2) = false := by rw [beq_eq_false_iff_ne]; exact hx2
                      have HJ2 := Lib.hid (show (2 : Int) = 2 → (zs.take (j + 1)).any (fun x => x.v.1 == 2 && txtC z x) = false from fun _ => by rw [HAT2.out, HJ.out rfl]; simp [hx2])
                      clear HJ HT f0 f1 f3 f4 e0 e1 e3 e4 hx2
                      go_wp2
                      (refine wp_region_after (by kernel_rfl) (by kernel_rfl) ?_; (repeat (go_big_quiet_step (fail))); refine wpQuiet_nil ?_; intro wq hw0; obtain ⟨⟨wq0, hbq⟩, hw1⟩ := hw0; subst hw1; (try dsimp only))
                      go_wp2
                      go_roundw
                      case rel => exact ⟨j + 1, by omega, by go_num, HJ2, hbr.trans (hbq.mono hbz)⟩
                      case measure => simp [intOf]; omega
                  · have h2b : (k0 == 2) = false := by rw [beq_eq_false_iff_ne]; exact h2
                    have HJ2 := Lib.hid (show k0 = 2 → (zs.take (j + 1)).any (fun x => x.v.1 == 2 && txtC z x) = false from fun h => absurd h h2)
                    clear HJ HT f0 f1 f2 f3 f4 e0 e1 e2 e3 e4 h2
                    go_wp2
                    (refine wp_region_after (by kernel_rfl) (by kernel_rfl) ?_; (repeat (go_big_quiet_step (fail))); refine wpQuiet_nil ?_; intro wq hw0; obtain ⟨⟨wq0, hbq⟩, hw1⟩ := hw0; subst hw1; (try dsimp only))
                    go_wp2
                    go_roundw
                    case rel => exact ⟨j + 1, by omega, by go_num, HJ2, hbr.trans (hbq.mono hbz)⟩
                    case measure => simp [intOf]; omega
                · have hji : ¬ (j : Int) < zs.length := by omega
                  have HPn := Lib.hid (show conR zs = conL k0 zs (zs.drop (k + 1)) (n1, n2) from by
                    rw [HPa.out, if_neg]
                    rintro ⟨h1, h2⟩
                    have h3 := HJ.out h1
                    rw [List.take_of_length_le (by omega), h2] at h3
                    cases h3)
                  have HXr := Lib.hid (HX.out.below hbr HX.out.lt)
                  clear HPa HJ HX HB5 hbr hbz
                  go_wp2
                  go_roundw
                  case rel => exact ⟨k + 1, (n1, n2), by omega, by go_num, Lib.hid (.inr ⟨by omega, HPn.out⟩), HXr, HBr.out⟩
                  case measure => simp [intOf]; omega
      · have hkp : 0 < k := by rcases Nat.eq_zero_or_pos k with h | h; exact absurd (hk0 h) hkk; exact h
        have hcr : conR zs = true := by
          rcases HP.out with ⟨h, _⟩ | ⟨_, h⟩
          · omega
          · rw [h, hcd, if_pos hkk]
        have hne : (z.v.1 != k0) = true := by rw [bne_iff_ne]; exact hkk
        have HCR := Lib.hid hcr
        clear hcd hkk hk0 hcr HP
        go_wp2
        (refine wp_region_after (by kernel_rfl) (by kernel_rfl) ?_; (repeat (go_big_quiet_step (fail))); refine wpQuiet_nil ?_; intro wq hw0; obtain ⟨⟨wq0, hbq⟩, hw1⟩ := hw0; subst hw1; (try dsimp only))
        go_wp2
        go_ret
        exact ⟨by rw [HCR.out]; rfl, hbr.trans (hbq.mono hbz)⟩
    · have hki : ¬ (k : Int) < zs.length := by omega
      have hkn : k = zs.length := by omega
      have hcr : conR zs = decide (k0 ≠ 2 ∧ r2 < r1) := by
        rcases HP.out with ⟨h, _⟩ | ⟨_, h⟩
        · omega
        · rw [h, hkn, List.drop_length]; rfl
      have hz0i : (0 : Int) < zs.length := by omega
      have g2 := H0.out wr hbr
      have q0 := HW.out.cell 0
      have q1 := HW.out.cell 1
      clear HP hkn hlt hk
      by_cases h2 : k0 = 2
      · have HCR := Lib.hid (show conR zs = false from by rw [hcr]; simp [h2])
        clear hcr
        subst h2
        go_wp2
        go_ret
        exact ⟨by rw [HCR.out]; rfl, hbr⟩
      · have h2b : (k0 == 2) = false := by rw [beq_eq_false_iff_ne]; exact h2
        by_cases h3 : r2 < r1
        · have h3g : r1 > r2 := h3
          have HCR := Lib.hid (show conR zs = true from by rw [hcr]; simp [h2, h3])
          clear hcr
          go_wp2
          go_ret
          exact ⟨by rw [HCR.out]; first | rfl | simp [h2, h3], hbr⟩
        · have h3g : ¬ r1 > r2 := h3
          have HCR := Lib.hid (show conR zs = false from by rw [hcr]; simp [h3])
          clear hcr
          go_wp2
          go_ret
          exact ⟨by rw [HCR.out]; first | rfl | simp [h2, h3], hbr⟩
theorem rCon_any (v : Value) (zs : List Cnd) (w : World) (L : Nat) (h : RdQ w L w.heap.size v zs) (hv : ∀ z ∈ zs, vldP z.v = true) :
    Calls Tryz.prog 70 #[v] w fun e' w' => e' = .returned (.bool (conR zs)) ∧ Below w.heap.size w w' := by
  have h' := h
  obtain ⟨A, c, rfl, _, hk⟩ := h
  cases zs with
  | nil => exact rCon_nil A c w
  | cons c0 t =>
    obtain ⟨ad, rfl, _⟩ := hk 0 c0 rfl
    exact rCon_ne ad c (c0 :: t) c0.v.1 c0 w L h' rfl rfl rfl hv
end Go.Proofs.YthnmcpfmljibeaaGreat
