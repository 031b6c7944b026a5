import Derived.Test.YtggeoloikkjipaaSWc
import Derived.WalkKit
import Derived.WalkSpells
import Derived.WalkLawsBesides
import Derived.Deep.QuietTactic
import Derived.BigQuiet
import Derived.Handy
import Derived.Lib.Hide
/-
  The reference's foreign: what it answers. Conditions: lengths.
-/
namespace Go.Proofs.Ytggeoloikkjipaa
set_option linter.unusedVariables false
set_option linter.unusedSimpArgs false
set_option maxRecDepth 100000
open Go.RowKit

def frgO (n : Int) (zs : List Int) (s : ByteArray) : Int := if nameS s.data.toList = false then 1 else if zs.length = 0 ∨ difL n [] zs = false then 25 else 0
theorem exiB_not {n : Nat} {z : Int} (h : exiB n z = false) : z < 0 ∨ (n : Int) ≤ z := by
  unfold exiB at h
  by_cases h0 : 0 ≤ z
  · rw [decide_eq_true h0, Bool.true_and] at h
    exact .inr (by have := of_decide_eq_false h; omega)
  · exact .inl (by omega)
theorem exiB_yes {n : Nat} {z : Int} (h : exiB n z = true) : 0 ≤ z ∧ z < n := by unfold exiB at h; simpa using h
set_option maxRecDepth 100000 in
set_option maxHeartbeats 12800000 in
theorem rForeign_any (nm vk vf vx u : Value) (A0 : Option Addr) (n c0 : Nat) (zs : List Int) (s : ByteArray) (w : World) (L : Nat) (hu : RdI w L w.heap.size u zs) :
    Calls Try.prog 116 #[.agg #[nm, .slice A0 n c0, vk, vf, vx], .agg #[u, .string s]] w fun e w' => e = .returned (.int .i64 (frgO n zs s)) ∧ Below w.heap.size w w' := by
  obtain ⟨A, c, rfl, hl, hc1⟩ := hu
  have HC := Lib.hid hc1
  have HO0 := Lib.hid (show Own ((w.alloc (.cells #[nm, .slice A0 n c0, vk, vf, vx] 42)).alloc (.cells #[.slice A zs.length c, .string s] 95)) w.heap.size 42 #[nm, .slice A0 n c0, vk, vf, vx] from (Own.new w _ _).alloc _)
  have HF0 := Lib.hid (show Own ((w.alloc (.cells #[nm, .slice A0 n c0, vk, vf, vx] 42)).alloc (.cells #[.slice A zs.length c, .string s] 95)) (w.heap.size + 1) 95 #[.slice A zs.length c, .string s] from own_two2 _)
  have HB0 := Lib.hid (show Below w.heap.size w ((w.alloc (.cells #[nm, .slice A0 n c0, vk, vf, vx] 42)).alloc (.cells #[.slice A zs.length c, .string s] 95)) from (bel_mark w _).trans ((bel_mark _ _).mono (by simp)))
  have HX := Lib.hid (fun (i : Int) (W : World) => rExists_any nm vk vf vx A0 n c0 i W)
  have HN := Lib.hid (fun W => rName_any s W)
  have HR := Lib.hid (show frgO n zs s = if nameS s.data.toList = false then 1 else if zs.length = 0 ∨ difL n [] zs = false then 25 else 0 from rfl)
  generalize frgO n zs s = R at *
  generalize nameS s.data.toList = bn at *
  have g1 := HF0.out.cell 1
  clear hc1
  cases bn
  · have HF := Lib.hid (HR.out.trans (if_pos rfl))
    go_enter Try.func116, Try.ntmps116
    go_wp2_with fail
    with_reducible refine (HN.out _).mono ?_
    rintro e w1 ⟨rfl, hb⟩
    go_wp2
    go_ret
    exact ⟨(by rw [HF.out]; try rfl), HB0.out.trans (hb.mono HB0.out.size)⟩
  have HR := Lib.hid (HR.out.trans (if_neg (by decide)))
  go_enter Try.func116, Try.ntmps116
  go_wp2_with fail
  with_reducible refine (HN.out _).mono ?_
  rintro e w1 ⟨rfl, hb⟩
  have HO1 := Lib.hid (HO0.out.below hb HO0.out.lt)
  have HF1 := Lib.hid (HF0.out.below hb HF0.out.lt)
  have HB1 := Lib.hid (HB0.out.trans (hb.mono HB0.out.size))
  have g0 := HF1.out.cell 0
  clear HO0 HF0 HB0 HN hb g1
  by_cases hz : zs.length = 0
  · have hzi : ((zs.length : Int) == 0) = true := by rw [beq_iff_eq]; omega
    have HF := Lib.hid (HR.out.trans (if_pos (.inl hz)))
    clear hz
    go_wp2
    go_ret
    exact ⟨(by rw [HF.out]; try rfl), HB1.out⟩
  have hzi : ((zs.length : Int) == 0) = false := by rw [beq_eq_false_iff_ne]; omega
  have HRF := Lib.hid (show difL n [] zs = false → R = 25 from fun h => HR.out.trans (if_pos (.inr h)))
  have HRT := Lib.hid (show difL n [] zs = true → R = 0 from fun h => HR.out.trans (if_neg (fun h2 => h2.elim hz (fun h3 => by rw [h] at h3; cases h3))))
  clear hz HR
  go_wp2_with fail
  go_loopw [5] (fun i' wr => ∃ i : Nat, i ≤ zs.length ∧ i' = .int .i64 i ∧ Hid (difL n [] zs = difL n (zs.take i) (zs.drop i)) ∧ Hid (Own wr w.heap.size 42 #[nm, .slice A0 n c0, vk, vf, vx]) ∧ Hid (Own wr (w.heap.size + 1) 95 #[.slice A zs.length c, .string s]) ∧ Below w.heap.size w wr) (fun i' _ => zs.length - (intOf i').toNat)
  case atStart => exact ⟨0, Nat.zero_le _, rfl, Lib.hid rfl, HO1, HF1, HB1.out⟩
  case round =>
    clear HO1 HF1 HB1 g0
    obtain ⟨i, hi, rfl, HD, HO, HFo, hbr⟩ := hrel
    have hbz := hbr.size
    have g0 := HFo.out.cell 0
    by_cases hlt : i < zs.length
    · have hii : (i : Int) < zs.length := by omega
      have hdi : decide ((i : Int) < zs.length) = true := decide_eq_true hii
      obtain ⟨ad, rfl, _, hab, a0⟩ := HC.out i _ (List.getElem?_eq_getElem hlt)
      have hcd := difL_drop (n := n) (List.getElem?_eq_getElem hlt)
      rw [← HD.out] at hcd
      have hzi2 := List.getElem?_eq_getElem hlt
      generalize zs[i] = z at *
      have HZI := Lib.hid hzi2
      have HCD := Lib.hid hcd
      have T0 : ∀ p : After wr, p.w.cell? ⟨w.heap.size, 0, none⟩ = some nm := after_cell HO.out.lt (HO.out.cell 0)
      have T1 : ∀ p : After wr, p.w.cell? ⟨w.heap.size, 1, none⟩ = some (.slice A0 n c0) := after_cell HO.out.lt (HO.out.cell 1)
      have T2 : ∀ p : After wr, p.w.cell? ⟨w.heap.size, 2, none⟩ = some vk := after_cell HO.out.lt (HO.out.cell 2)
      have T3 : ∀ p : After wr, p.w.cell? ⟨w.heap.size, 3, none⟩ = some vf := after_cell HO.out.lt (HO.out.cell 3)
      have T4 : ∀ p : After wr, p.w.cell? ⟨w.heap.size, 4, none⟩ = some vx := after_cell HO.out.lt (HO.out.cell 4)
      have F0 : ∀ p : After wr, p.w.cell? ⟨w.heap.size + 1, 0, none⟩ = some (.slice (some ad) zs.length c) := after_cell HFo.out.lt (HFo.out.cell 0)
      have E0 : ∀ p : After wr, p.w.cell? (ad.add i) = some (.int .i64 z) := after_cell (by rw [add_block]; omega) ((hbr.cell (p := ad.add i) (by rw [add_block]; exact hab)).trans a0)
      clear hcd hzi2
      cases hex : exiB n z
      · have hzz := exiB_not hex
        have HF := Lib.hid (HRF.out (HCD.out.trans (if_pos (hzz.elim .inl (fun h => .inr (.inl h))))))
        have HXF := Lib.hid (show ∀ W, Calls Try.prog 115 #[.agg #[nm, .slice A0 n c0, vk, vf, vx], .int .i64 z] W fun e w' => e = .returned (.bool false) ∧ Below W.heap.size W w' from fun W => by have h := HX.out z W; rwa [hex] at h)
        clear hzz hex HCD HX a0
        go_wp2_with fail
        clear g0
        (refine wp_region_after (by kernel_rfl) (by kernel_rfl) ?_; (repeat (go_big_quiet_step ((go_at_call 115; exact calls_after (HXF.out _))))); refine wpQuiet_nil ?_; intro wq hw0; obtain ⟨⟨wq0, hbq⟩, hw1⟩ := hw0; subst hw1; (try dsimp only))
        clear T0 T1 T2 T3 T4 F0 E0
        go_wp2
        go_ret
        exact ⟨(by rw [HF.out]; try rfl), hbr.trans (hbq.mono hbz)⟩
      have HZZ := Lib.hid (exiB_yes hex)
      have HXT := Lib.hid (show ∀ W, Calls Try.prog 115 #[.agg #[nm, .slice A0 n c0, vk, vf, vx], .int .i64 z] W fun e w' => e = .returned (.bool true) ∧ Below W.heap.size W w' from fun W => by have h := HX.out z W; rwa [hex] at h)
      clear hex
      go_wp2_with fail
      clear g0
      (refine wp_region_after (by kernel_rfl) (by kernel_rfl) ?_; (repeat (go_big_quiet_step ((go_at_call 115; exact calls_after (HXT.out _))))); refine wpQuiet_nil ?_; intro wq hw0; obtain ⟨⟨wq0, hbq⟩, hw1⟩ := hw0; subst hw1; (try dsimp only))
      have HOQ := Lib.hid (HO.out.below hbq HO.out.lt)
      have HFQ := Lib.hid (HFo.out.below hbq HFo.out.lt)
      have HBQ := Lib.hid (hbr.trans (hbq.mono hbz))
      have HA0 := Lib.hid a0
      clear T0 T1 T2 T3 T4 F0 E0 hbq hbr hbz HO HFo a0 HXT
      go_wp2_with fail
      go_loopw [6] (fun k' wr => ∃ k : Nat, k ≤ i ∧ k' = .int .i64 k ∧ Hid (z ∉ zs.take k) ∧ Hid (Own wr w.heap.size 42 #[nm, .slice A0 n c0, vk, vf, vx]) ∧ Hid (Own wr (w.heap.size + 1) 95 #[.slice (some ad) zs.length c, .string s]) ∧ Below w.heap.size w wr) (fun k' _ => i - (intOf k').toNat)
      case atStart => exact ⟨0, Nat.zero_le _, rfl, Lib.hid (by simp), HOQ, HFQ, HBQ.out⟩
      case round =>
        clear HOQ HFQ HBQ
        obtain ⟨k, hk, rfl, HM, HO, HFo, hbr⟩ := hrel
        have hbz := hbr.size
        by_cases hlk : k < i
        · have hkk : (k : Int) < (i : Int) := by omega
          have hkl : k < zs.length := by omega
          have hkl2 : (k : Int) < zs.length := by omega
          obtain ⟨ad3, e3, _, hab3, b0⟩ := HC.out k _ (List.getElem?_eq_getElem hkl)
          injection e3 with e3
          subst e3
          have htk : zs.take (k + 1) = zs.take k ++ [zs[k]] := by rw [List.take_add_one, List.getElem?_eq_getElem hkl]; rfl
          have hmem : zs[k] ∈ zs.take i := by
            have : (zs.take i)[k]? = some zs[k] := by rw [List.getElem?_take_of_lt hlk]; exact List.getElem?_eq_getElem hkl
            exact List.mem_of_getElem? this
          generalize zs[k] = y at *
          have HTK := Lib.hid htk
          have HMEM := Lib.hid hmem
          have F0 : ∀ p : After wr, p.w.cell? ⟨w.heap.size + 1, 0, none⟩ = some (.slice (some ad) zs.length c) := after_cell HFo.out.lt (HFo.out.cell 0)
          have E0 : ∀ p : After wr, p.w.cell? (ad.add i) = some (.int .i64 z) := after_cell (by rw [add_block]; omega) ((hbr.cell (p := ad.add i) (by rw [add_block]; exact hab)).trans HA0.out)
          have E1 : ∀ p : After wr, p.w.cell? (ad.add k) = some (.int .i64 y) := after_cell (by rw [add_block]; omega) ((hbr.cell (p := ad.add k) (by rw [add_block]; exact hab)).trans b0)
          clear htk hmem b0
          by_cases hyz : y = z
          · have HF := Lib.hid (HRF.out (HCD.out.trans (if_pos (.inr (.inr (by have h := HMEM.out; rwa [hyz] at h))))))
            have hyb : (y == z) = true := by rw [beq_iff_eq]; exact hyz
            clear hyz
            go_wp2_with fail
            (refine wp_region_after (by kernel_rfl) (by kernel_rfl) ?_; (repeat (go_big_quiet_step (fail))); refine wpQuiet_nil ?_; intro wq hw0; obtain ⟨⟨wq0, hbq⟩, hw1⟩ := hw0; subst hw1; (try dsimp only))
            clear F0 E0 E1
            go_wp2
            go_ret
            exact ⟨(by rw [HF.out]; try rfl), hbr.trans (hbq.mono hbz)⟩
          · have hyb : (y == z) = false := by rw [beq_eq_false_iff_ne]; exact hyz
            have HM2 := Lib.hid (show z ∉ zs.take (k + 1) from by
              rw [HTK.out, List.mem_append, List.mem_singleton]
              exact fun h => h.elim HM.out (fun h => hyz h.symm))
            clear hyz
            go_wp2_with fail
            (refine wp_region_after (by kernel_rfl) (by kernel_rfl) ?_; (repeat (go_big_quiet_step (fail))); refine wpQuiet_nil ?_; intro wq hw0; obtain ⟨⟨wq0, hbq⟩, hw1⟩ := hw0; subst hw1; (try dsimp only))
            have HOQ := Lib.hid (HO.out.below hbq HO.out.lt)
            have HFQ := Lib.hid (HFo.out.below hbq HFo.out.lt)
            have HBQ := Lib.hid (hbr.trans (hbq.mono hbz))
            clear F0 E0 E1 hbq
            go_wp2
            go_roundw
            case rel => exact ⟨k + 1, by omega, by go_num, HM2, HOQ, HFQ, HBQ.out⟩
            case measure => simp [intOf]; omega
        · have hkk : ¬ (k : Int) < (i : Int) := by omega
          have hek : k = i := by omega
          subst hek
          have HD2 := Lib.hid (HCD.out.trans (if_neg (fun h => h.elim (fun h => by have := HZZ.out.1; omega) (fun h => h.elim (fun h => by have := HZZ.out.2; omega) HM.out))))
          go_wp2
          go_roundw
          case rel => exact ⟨k + 1, by omega, by go_num, HD2, HO, HFo, hbr⟩
          case measure => simp [intOf]; omega
    · have hii : ¬ (i : Int) < zs.length := by omega
      have HF := Lib.hid (HRT.out (by rw [HD.out, List.drop_eq_nil_of_le (show zs.length ≤ i by omega)]; rfl))
      go_wp2
      go_ret
      exact ⟨(by rw [HF.out]; try rfl), hbr⟩
end Go.Proofs.Ytggeoloikkjipaa
