import Derived.Test.YtggeoloikkjipaaSV
import Derived.Test.YtggeoloikkjipaaSWb
import Derived.Test.YtggeoloikkjipaaSW
import Derived.Deep.RegionHeld3
import Derived.WalkKit
import Derived.WalkSpells
import Derived.WalkLawsBesides
import Derived.Deep.QuietTactic
import Derived.BigQuiet
import Derived.Handy
import Derived.Lib.Hide
import Derived.Test.YtggeoloikkjipaaSQ
import Derived.Test.YtggeoloikkjipaaMT
/-
  The walk of the statement SchemaFinds. Conditions: the search's variable holds some number; lengths.
-/
namespace Go.Proofs.Ytggeoloikkjipaa
set_option linter.unusedVariables false
set_option linter.unusedSimpArgs false
set_option maxRecDepth 100000
open Go.RowKit

theorem colL_ok : ∀ (l : List Cl) (pre : List (List UInt8)), colL pre l = 0 → ∀ (k : Nat) (c : Cl), l[k]? = some c → nameS (nmC c) = true ∧ nmC c ∉ (l.take k).map nmC ∧ nmC c ∉ pre
  | [], _, _, _, _, h => by simp at h
  | c0 :: cs, pre, h, k, c, hk => by
    unfold colL at h
    by_cases h1 : nameS (nmC c0) = false
    · rw [if_pos h1] at h; exact absurd h (by decide)
    rw [if_neg h1] at h
    by_cases h2 : c0.2.1 < 1 ∨ 3 < c0.2.1
    · rw [if_pos h2] at h; exact absurd h (by decide)
    rw [if_neg h2] at h
    by_cases h3 : nmC c0 ∈ pre
    · rw [if_pos h3] at h; exact absurd h (by decide)
    rw [if_neg h3] at h
    cases k with
    | zero =>
      simp at hk
      subst hk
      exact ⟨by simpa using h1, by simp, h3⟩
    | succ k =>
      obtain ⟨g1, g2, g3⟩ := colL_ok cs (pre ++ [nmC c0]) h k c (by simpa using hk)
      rw [List.mem_append, List.mem_singleton] at g3
      refine ⟨g1, ?_, fun h => g3 (.inl h)⟩
      rw [List.take_succ_cons, List.map_cons, List.mem_cons]
      exact fun h => h.elim (fun h => g3 (.inr h)) g2
theorem colE_ok {cs : List Cl} (h : colE cs = 0) : ∀ (k : Nat) (c : Cl), cs[k]? = some c → nameS (nmC c) = true ∧ findK c.1 0 cs = (k : Int) := by
  intro k c hk
  unfold colE at h
  by_cases h1 : cs.length = 0 ∨ 12 < cs.length
  · rw [if_pos h1] at h; exact absurd h (by decide)
  rw [if_neg h1] at h
  obtain ⟨g1, g2, _⟩ := colL_ok cs [] h k c hk
  obtain ⟨f1, f2, f3⟩ := findK_has c.1 cs 0 k c hk rfl
  rw [Nat.zero_add] at f2 f3
  refine ⟨g1, ?_⟩
  have : ¬ findK c.1 0 cs < (k : Int) := fun h => g2 (f3.1 h)
  omega
theorem chkA_ok {nm : List UInt8} {cs : List Cl} {ks : List Int} {fs : List Fk} {d : Nat} {es : List Ex} (h : chkA nm cs ks fs d es = 0) : nameS nm = true ∧ colE cs = 0 ∧ keyE cs ks = 0 := by
  unfold chkA at h
  by_cases h1 : nameS nm = false
  · rw [if_pos h1] at h; exact absurd h (by decide)
  rw [if_neg h1] at h
  by_cases h2 : colE cs ≠ 0
  · rw [if_pos h2] at h; exact absurd h h2
  rw [if_neg h2] at h
  by_cases h3 : keyE cs ks ≠ 0
  · rw [if_pos h3] at h; exact absurd h h3
  exact ⟨by simpa using h1, by simpa using h2, by simpa using h3⟩
set_option maxRecDepth 100000 in
set_option maxHeartbeats 12800000 in
theorem law_sfinds (nm : ByteArray) (vc vk vf vx : Value) (cs : List Cl) (ks : List Int) (fs : List Fk) (es : List Ex) (d : Nat) (m : Int) (w : World) (hm : w.cell? ⟨0, 0, none⟩ = some (.int .i64 m)) (hc : RdK w 0 w.heap.size vc cs) (hk : RdI w 0 w.heap.size vk ks) (hf : RdF w 0 w.heap.size vf fs) (he : RdE w 0 w.heap.size (d + 1) vx es) (hlen : cs.length ≤ 1099511627776) :
    Calls Try.prog 8 #[.agg #[.string nm, vc, vk, vf, vx]] w fun e w' => e = .returned (.bool true) ∧ Below w.heap.size w w' := by
  have hm0 := World.block_lt_of_cell? w _ hm
  have HM := Lib.hid (fun (W : World) (h : Below w.heap.size w W) => (h.cell (p := ⟨0, 0, none⟩) hm0).trans hm)
  have HP := Lib.hid (fun (W : World) (h : Below w.heap.size w W) => pTabCheck_any nm vc vk vf vx cs ks fs es d m W 0 0 0 0 (HM.out W h) (hc.step h (Nat.le_refl _)) (hk.step h (Nat.le_refl _)) (hf.step h (Nat.le_refl _)) (he.step h (Nat.le_refl _)) hlen)
  have HFI := Lib.hid (fun (s : ByteArray) (W : World) (h : Below w.heap.size w W) => pFind_any (.string nm) vc vk vf vx cs s W 0 (hc.step h (Nat.le_refl _)))
  have HN := Lib.hid (fun (s : ByteArray) (W : World) (h : Below w.heap.size w W) => pName_any s m W (HM.out W h))
  have HA := Lib.hid (fun (W : World) (h : Below w.heap.size w W) => awake13_any m W (HM.out W h))
  have HB1 := Lib.hid (bel_mark w (.cells #[.string nm, vc, vk, vf, vx] 42))
  have HO1 := Lib.hid (Own.new w 42 #[.string nm, vc, vk, vf, vx])
  obtain ⟨A, c, rfl, hl1, hc1⟩ := hc
  have HC := Lib.hid hc1
  have HX := Lib.hid (show chkA nm.data.toList cs ks fs d es = 0 → nameS nm.data.toList = true ∧ colE cs = 0 from fun h => ⟨(chkA_ok h).1, (chkA_ok h).2.1⟩)
  generalize chkA nm.data.toList cs ks fs d es = R at *
  obtain ⟨d0, d1, d2, d3, d4⟩ := HO1.out.five
  clear hc1 hk hf he hm
  by_cases h0 : R = 0
  rotate_left
  · have r0 : (R != 0) = true := by simp [h0]
    clear h0 HX
    go_enter Try.func8, Try.ntmps8
    go_wp2_with fail
    with_reducible refine (HP.out _ HB1.out).mono ?_
    rintro e w2 ⟨rfl, hb⟩
    have HB2 := Lib.hid (HB1.out.trans (hb.mono HB1.out.size))
    clear hb d0 d1 d2 d3 d4
    go_wp2_with fail
    with_reducible refine (HA.out _ HB2.out).mono ?_
    rintro e w3 ⟨rfl, hb⟩
    go_wp2
    go_ret
    exact ⟨rfl, HB2.out.trans (hb.mono HB2.out.size)⟩
  subst h0
  obtain ⟨hnm, hce⟩ := HX.out rfl
  have HE := Lib.hid (colE_ok hce)
  have HNM := Lib.hid (show ∀ (W : World) (h : Below w.heap.size w W), Calls Try.prog 20 #[.string nm] W fun e w' => e = .returned (.bool true) ∧ Below W.heap.size W w' from fun W h => by have q := HN.out nm W h; rwa [hnm] at q)
  clear HX hnm hce
  go_enter Try.func8, Try.ntmps8
  go_wp2_with fail
  with_reducible refine (HP.out _ HB1.out).mono ?_
  rintro e w2 ⟨rfl, hb⟩
  have HO2 := Lib.hid (HO1.out.below hb HO1.out.lt)
  have HB2 := Lib.hid (HB1.out.trans (hb.mono HB1.out.size))
  clear HO1 HB1 hb d0 d1 d2 d3 d4
  have d1 := HO2.out.cell 1
  go_wp2_with fail
  go_loopw [11] (fun i wr => ∃ k : Nat, k ≤ cs.length ∧ i = .int .i64 k ∧ Hid (Own wr w.heap.size 42 #[.string nm, .slice A cs.length c, vk, vf, vx]) ∧ Below w.heap.size w wr) (fun i _ => cs.length - (intOf i).toNat)
  case atStart => exact ⟨0, Nat.zero_le _, rfl, HO2, HB2.out⟩
  case round =>
    clear HO2 HB2 d1
    obtain ⟨k, hk, rfl, HO, hbr⟩ := hrel
    have hbz := hbr.size
    by_cases hlt : k < cs.length
    · have hki : (k : Int) < cs.length := by omega
      obtain ⟨ad, rfl, _, hab, a0, a1, a2⟩ := HC.out k _ (List.getElem?_eq_getElem hlt)
      obtain ⟨hn, hf⟩ := HE.out k _ (List.getElem?_eq_getElem hlt)
      generalize cs[k] = q at *
      obtain ⟨qn, qk, qb⟩ := q
      dsimp only at a0 a1 a2 hf
      have T0 : ∀ p : After wr, p.w.cell? ⟨w.heap.size, 0, none⟩ = some (.string nm) := after_cell HO.out.lt (HO.out.cell 0)
      have T1 : ∀ p : After wr, p.w.cell? ⟨w.heap.size, 1, none⟩ = some (.slice (some ad) cs.length c) := after_cell HO.out.lt (HO.out.cell 1)
      have T2 : ∀ p : After wr, p.w.cell? ⟨w.heap.size, 2, none⟩ = some vk := after_cell HO.out.lt (HO.out.cell 2)
      have T3 : ∀ p : After wr, p.w.cell? ⟨w.heap.size, 3, none⟩ = some vf := after_cell HO.out.lt (HO.out.cell 3)
      have T4 : ∀ p : After wr, p.w.cell? ⟨w.heap.size, 4, none⟩ = some vx := after_cell HO.out.lt (HO.out.cell 4)
      have E0 : ∀ p : After wr, p.w.cell? (ad.add (k * 3)) = some (.string qn) := after_cell (by rw [add_block]; omega) ((hbr.cell (p := ad.add (k * 3)) (by rw [add_block]; exact hab)).trans a0)
      have G1 := Lib.hid (show ∀ p : After wr, Calls Try.prog 32 #[.agg #[.string nm, .slice (some ad) cs.length c, vk, vf, vx], .string qn] p.w fun e w' => e = .returned (.int .i64 (k : Int)) ∧ Below p.w.heap.size p.w w' from fun p => by have q := HFI.out qn p.w (hbr.trans (p.h.mono hbz)); rwa [hf] at q)
      have G2 := Lib.hid (show ∀ p : After wr, Calls Try.prog 20 #[.string qn] p.w fun e w' => e = .returned (.bool true) ∧ Below p.w.heap.size p.w w' from fun p => by have q := HN.out qn p.w (hbr.trans (p.h.mono hbz)); rwa [show nameS qn.data.toList = true from hn] at q)
      clear a0 a1 a2 hn hf
      go_wp2_with fail
      (refine wp_region_after (by kernel_rfl) (by kernel_rfl) ?_; (repeat (go_big_quiet_step (first | (go_at_call 32; exact calls_after (G1.out _)) | (go_at_call 20; exact calls_after (G2.out _))))); refine wpQuiet_nil ?_; intro wq hw0; obtain ⟨⟨wq0, hbq⟩, hw1⟩ := hw0; subst hw1; (try dsimp only))
      have HOQ := Lib.hid (HO.out.below hbq HO.out.lt)
      have HBQ := Lib.hid (hbr.trans (hbq.mono hbz))
      clear T0 T1 T2 T3 T4 E0 hbq
      go_wp2
      go_roundw
      case rel => exact ⟨k + 1, by omega, by go_num, HOQ, HBQ.out⟩
      case measure => simp [intOf]; omega
    · have hki : ¬ (k : Int) < cs.length := by omega
      have d0 := HO.out.cell 0
      have HBR := Lib.hid hbr
      clear hbr hbz
      go_wp2_with fail
      with_reducible refine (HNM.out _ HBR.out).mono ?_
      rintro e w3 ⟨rfl, hb⟩
      have HB3 := Lib.hid (HBR.out.trans (hb.mono HBR.out.size))
      clear hb d0
      go_wp2_with fail
      with_reducible refine (HA.out _ HB3.out).mono ?_
      rintro e w4 ⟨rfl, hb⟩
      go_wp2
      go_ret
      exact ⟨rfl, HB3.out.trans (hb.mono HB3.out.size)⟩
end Go.Proofs.Ytggeoloikkjipaa
/-
  The walk of the statement SchemaRows. Conditions: the search's variable holds some number; lengths.
-/
namespace Go.Proofs.Ytggeoloikkjipaa
set_option linter.unusedVariables false
set_option linter.unusedSimpArgs false
set_option maxRecDepth 100000
open Go.RowKit

theorem keyT_ok (cs : List Cl) : ∀ (ks : List Int) (y : Int), -1 ≤ y → keyT cs y ks = 0 → ∀ z ∈ ks, ∃ j : Nat, z = j ∧ ∃ c, cs[j]? = some c ∧ c.2.2 = false
  | [], _, _, _, _, h => by simp at h
  | i :: ks, y, hy, h, z, hz => by
    unfold keyT at h
    by_cases h1 : i ≤ y ∨ (cs.length : Int) ≤ i
    · rw [if_pos h1] at h; exact absurd h (by decide)
    rw [if_neg h1] at h
    by_cases h2 : ((cs[i.toNat]?).map (fun c => c.2.2)).getD false = true
    · rw [if_pos h2] at h; exact absurd h (by decide)
    rw [if_neg h2] at h
    rcases List.mem_cons.1 hz with rfl | hz
    · have hlt : z.toNat < cs.length := by omega
      refine ⟨z.toNat, by omega, cs[z.toNat], List.getElem?_eq_getElem hlt, ?_⟩
      rw [List.getElem?_eq_getElem hlt] at h2
      simpa using h2
    · exact keyT_ok cs ks i (by omega) h z hz
theorem accL_ok : ∀ (cs : List Cl) (ps : List Vl), cs.length = ps.length → accL cs ps = 0 → fitL ps (cs.map kdC) = true ∧ ∀ (j : Nat) (c : Cl) (p : Vl), cs[j]? = some c → ps[j]? = some p → c.2.2 = false → p.1 ≠ 0
  | [], [], _, _ => ⟨rfl, fun _ _ _ h => by simp at h⟩
  | c :: cs, p :: ps, hl, h => by
    unfold accL at h
    by_cases h1 : okP p = false
    · rw [if_pos h1] at h; exact absurd h (by decide)
    rw [if_neg h1] at h
    have h1' : okP p = true := by simpa using h1
    have hl' : cs.length = ps.length := by simpa using hl
    by_cases h2 : p.1 = 0
    · rw [if_pos h2] at h
      by_cases h3 : c.2.2 = false
      · rw [if_pos h3] at h; exact absurd h (by decide)
      rw [if_neg h3] at h
      obtain ⟨g1, g2⟩ := accL_ok cs ps hl' h
      refine ⟨?_, fun j c2 p2 hc hp hb => ?_⟩
      · show (fitP p (kdC c) && fitL ps (cs.map kdC)) = true
        rw [g1, Bool.and_true]
        unfold fitP
        simp [h1', h2]
      · cases j with
        | zero => simp at hc hp; subst hc; exact absurd hb h3
        | succ j => exact g2 j c2 p2 (by simpa using hc) (by simpa using hp) hb
    · rw [if_neg h2] at h
      by_cases h3 : p.1 ≠ c.2.1
      · rw [if_pos h3] at h; exact absurd h (by decide)
      rw [if_neg h3] at h
      obtain ⟨g1, g2⟩ := accL_ok cs ps hl' h
      refine ⟨?_, fun j c2 p2 hc hp hb => ?_⟩
      · show (fitP p (kdC c) && fitL ps (cs.map kdC)) = true
        rw [g1, Bool.and_true]
        have h4 : p.1 = kdC c := by simpa [kdC] using h3
        unfold fitP
        simp [h1', h4]
      · cases j with
        | zero => simp at hc hp; subst hp; exact h2
        | succ j => exact g2 j c2 p2 (by simpa using hc) (by simpa using hp) hb
theorem rows_ok {cs : List Cl} {ks : List Int} {ps : List Vl} (hk : keyE cs ks = 0) (ha : accS cs ps = 0) : fitsF ps (cs.map kdC) = true ∧ ∀ q ∈ ks.map (atP ps), q.1 ≠ 0 := by
  unfold accS at ha
  by_cases h1 : ps.length ≠ cs.length
  · rw [if_pos h1] at ha; exact absurd ha (by decide)
  rw [if_neg h1] at ha
  have h1' : ps.length = cs.length := by simpa using h1
  obtain ⟨g1, g2⟩ := accL_ok cs ps h1'.symm ha
  unfold keyE at hk
  by_cases h2 : ks.length = 0
  · rw [if_pos h2] at hk; exact absurd hk (by decide)
  rw [if_neg h2] at hk
  refine ⟨?_, fun q hq => ?_⟩
  · unfold fitsF
    rw [g1, List.length_map, h1']
    simp
  · obtain ⟨z, hz, rfl⟩ := List.mem_map.1 hq
    obtain ⟨j, rfl, c, hc, hb⟩ := keyT_ok cs ks (-1) (Int.le_refl _) hk z hz
    have hj : j < ps.length := by
      have := (List.getElem?_eq_some_iff.1 hc).1
      omega
    rw [atP_in ps j hj]
    exact g2 j c _ hc (List.getElem?_eq_getElem hj) hb
theorem rdI_slice2 {w : World} {L B : Nat} {v : Value} {zs : List Int} (h : RdI w L B v zs) : ∃ A c, v = .slice A zs.length c := by
  obtain ⟨A, c, h1, _⟩ := h
  exact ⟨A, c, h1⟩
theorem RdI.low2 {w : World} {L L' B : Nat} {v : Value} {zs : List Int} (h : RdI w L B v zs) (hL : L' ≤ L) : RdI w L' B v zs := by
  obtain ⟨A, c, hv, hl, hc⟩ := h
  exact ⟨A, c, hv, hl, fun k z hk => let ⟨ad, h1, h0, h2⟩ := hc k z hk; ⟨ad, h1, Nat.le_trans hL h0, h2⟩⟩
set_option maxRecDepth 100000 in
set_option maxHeartbeats 12800000 in
theorem law_srows (nm : ByteArray) (vc vk vf vx u : Value) (cs : List Cl) (ks : List Int) (fs : List Fk) (es : List Ex) (ps : List Vl) (d : Nat) (m : Int) (w : World) (hm : w.cell? ⟨0, 0, none⟩ = some (.int .i64 m)) (hc : RdK w 0 w.heap.size vc cs) (hk : RdI w 0 w.heap.size vk ks) (hf : RdF w 0 w.heap.size vf fs) (he : RdE w 0 w.heap.size (d + 1) vx es) (hu : RdV w 0 w.heap.size u ps) (hlen : cs.length ≤ 1099511627776) (hlk : ks.length ≤ 1099511627776) :
    Calls Try.prog 7 #[.agg #[.string nm, vc, vk, vf, vx], u] w fun e w' => e = .returned (.bool true) ∧ Below w.heap.size w w' := by
  have hm0 := World.block_lt_of_cell? w _ hm
  have HM := Lib.hid (fun (W : World) (h : Below w.heap.size w W) => (h.cell (p := ⟨0, 0, none⟩) hm0).trans hm)
  have HP := Lib.hid (fun (W : World) (h : Below w.heap.size w W) => pTabCheck_any nm vc vk vf vx cs ks fs es d m W 0 0 0 0 (HM.out W h) (hc.step h (Nat.le_refl _)) (hk.step h (Nat.le_refl _)) (hf.step h (Nat.le_refl _)) (he.step h (Nat.le_refl _)) hlen)
  have HAC := Lib.hid (fun (W : World) (h : Below w.heap.size w W) => pAccepts_any (.string nm) vc vk vf vx u cs ps W 0 0 (hc.step h (Nat.le_refl _)) (hu.step h (Nat.le_refl _)))
  have HKY := Lib.hid (fun (W : World) (h : Below w.heap.size w W) => pKey_any (.string nm) vc vk vf vx u ps ks W 0 0 (hu.step h (Nat.le_refl _)) (hk.step h (Nat.le_refl _)) hlk)
  have HKD := Lib.hid (fun (W : World) (h : Below w.heap.size w W) => pKinds_any (.string nm) vc vk vf vx cs W 0 (hc.step h (Nat.le_refl _)) hlen)
  have HFT := Lib.hid (fun (W : World) (h : Below w.heap.size w W) (v : Value) (zs : List Int) (hv : RdI W w.heap.size W.heap.size v zs) => rFits_any u v ps zs W 0 w.heap.size (hu.step h (Nat.le_refl _)) hv)
  have HA := Lib.hid (fun (W : World) (h : Below w.heap.size w W) => awake13_any m W (HM.out W h))
  have HB1 := Lib.hid (bel_mark w (.cells #[.string nm, vc, vk, vf, vx] 42))
  have HO1 := Lib.hid (Own.new w 42 #[.string nm, vc, vk, vf, vx])
  obtain ⟨Ak0, ck0, rfl⟩ := rdI_slice2 hk
  obtain ⟨Au0, cu0, rfl⟩ : ∃ A c, u = .slice A ps.length c := by obtain ⟨A, c, h, _⟩ := hu; exact ⟨A, c, h⟩
  have HX := Lib.hid (show chkA nm.data.toList cs ks fs d es = 0 → accS cs ps = 0 → fitsF ps (cs.map kdC) = true ∧ ∀ q ∈ ks.map (atP ps), q.1 ≠ 0 from fun h h2 => rows_ok (chkA_ok h).2.2 h2)
  generalize chkA nm.data.toList cs ks fs d es = R at *
  generalize accS cs ps = R2 at *
  obtain ⟨d0, d1, d2, d3, d4⟩ := HO1.out.five
  clear hc hk hf he hm hu
  by_cases h0 : R = 0
  rotate_left
  · have r0 : (R != 0) = true := by simp [h0]
    clear h0 HX
    go_enter Try.func7, Try.ntmps7
    go_wp2_with fail
    with_reducible refine (HP.out _ HB1.out).mono ?_
    rintro e w2 ⟨rfl, hb⟩
    have HB2 := Lib.hid (HB1.out.trans (hb.mono HB1.out.size))
    clear hb d0 d1 d2 d3 d4
    go_wp2_with fail
    with_reducible refine (HA.out _ HB2.out).mono ?_
    rintro e w3 ⟨rfl, hb⟩
    go_wp2
    go_ret
    exact ⟨rfl, HB2.out.trans (hb.mono HB2.out.size)⟩
  subst h0
  have HX1 := Lib.hid (HX.out (by trivial))
  clear HX
  go_enter Try.func7, Try.ntmps7
  go_wp2_with fail
  with_reducible refine (HP.out _ HB1.out).mono ?_
  rintro e w2 ⟨rfl, hb⟩
  have HO2 := Lib.hid (HO1.out.below hb HO1.out.lt)
  have HB2 := Lib.hid (HB1.out.trans (hb.mono HB1.out.size))
  clear HO1 HB1 hb d0 d1 d2 d3 d4 HP
  obtain ⟨d0, d1, d2, d3, d4⟩ := HO2.out.five
  by_cases h0 : R2 = 0
  rotate_left
  · have r0 : (R2 != 0) = true := by simp [h0]
    clear h0 HX1
    go_wp2_with fail
    with_reducible refine (HAC.out _ HB2.out).mono ?_
    rintro e w3 ⟨rfl, hb⟩
    have HB3 := Lib.hid (HB2.out.trans (hb.mono HB2.out.size))
    clear hb d0 d1 d2 d3 d4
    go_wp2_with fail
    with_reducible refine (HA.out _ HB3.out).mono ?_
    rintro e w4 ⟨rfl, hb⟩
    go_wp2
    go_ret
    exact ⟨rfl, HB3.out.trans (hb.mono HB3.out.size)⟩
  subst h0
  obtain ⟨hfit, hkn⟩ := HX1.out (by trivial)
  have HKN := Lib.hid hkn
  have HFIT := Lib.hid hfit
  clear HX1 hfit hkn
  go_wp2_with fail
  with_reducible refine (HAC.out _ HB2.out).mono ?_
  rintro e w3 ⟨rfl, hb⟩
  have HO3 := Lib.hid (HO2.out.below hb HO2.out.lt)
  have HB3 := Lib.hid (HB2.out.trans (hb.mono HB2.out.size))
  clear HO2 HB2 hb d0 d1 d2 d3 d4 HAC
  obtain ⟨d0, d1, d2, d3, d4⟩ := HO3.out.five
  go_wp2_with fail
  with_reducible refine (HKY.out _ HB3.out).mono ?_
  rintro e w4 ⟨uk, rfl, hr, hb⟩
  have HO4 := Lib.hid (HO3.out.below hb HO3.out.lt)
  have HB4 := Lib.hid (HB3.out.trans (hb.mono HB3.out.size))
  obtain ⟨Ar, cr, rfl, hlr, hcr⟩ := hr.1
  have HCR := Lib.hid hcr
  have hll : (ks.map (atP ps)).length = ks.length := List.length_map _
  have HLL := Lib.hid hll
  generalize ks.map (atP ps) = l at *
  clear HO3 HB3 hb d0 d1 d2 d3 d4 HKY hr hcr hll
  go_wp2_with fail
  go_loopw [22] (fun i wr => ∃ k : Nat, k ≤ l.length ∧ i = .int .i64 k ∧ Hid (Own wr w.heap.size 42 #[.string nm, vc, .slice Ak0 ks.length ck0, vf, vx]) ∧ Hid (Below w4.heap.size w4 wr) ∧ Below w.heap.size w wr) (fun i _ => l.length - (intOf i).toNat)
  case atStart => exact ⟨0, Nat.zero_le _, rfl, HO4, Lib.hid (Below.refl _ _), HB4.out⟩
  case round =>
    clear HO4 HB4
    obtain ⟨k, hk, rfl, HO, HB, hbr⟩ := hrel
    have hbz := hbr.size
    by_cases hlt : k < l.length
    · have hki : (k : Int) < l.length := by omega
      obtain ⟨ad, rfl, _, hab, a0, a1, a2⟩ := HCR.out k _ (List.getElem?_eq_getElem hlt)
      have hne := HKN.out l[k] (List.getElem_mem hlt)
      generalize l[k] = q at *
      obtain ⟨q1, q2, q3⟩ := q
      dsimp only at a0 a1 a2 hne
      have e0 := (HB.out.cell (p := ad.add (k * 3)) (by rw [add_block]; exact hab)).trans a0
      have hnb : (q1 == 0) = false := by rw [beq_eq_false_iff_ne]; exact hne
      clear a0 a1 a2 hne
      go_wp2
      go_roundw
      case rel => exact ⟨k + 1, by omega, by go_num, HO, HB, hbr⟩
      case measure => simp [intOf]; omega
    · have hki : ¬ (k : Int) < l.length := by omega
      obtain ⟨d0, d1, d2, d3, d4⟩ := HO.out.five
      have hlb : ((l.length : Int) == (ks.length : Int)) = true := by rw [HLL.out]; simp
      have HBR := Lib.hid hbr
      clear hbr hbz HCR HKN HB
      go_wp2_with fail
      with_reducible refine (HKD.out _ HBR.out).mono ?_
      rintro e w5 ⟨uz, rfl, hz, hb⟩
      have HB5 := Lib.hid (HBR.out.trans (hb.mono HBR.out.size))
      have hzl := hz.low2 HBR.out.size
      have hft := HFT.out _ HB5.out _ _ hzl
      rw [HFIT.out] at hft
      have HF5 := Lib.hid hft
      obtain ⟨Az, cz, rfl⟩ : ∃ A c, uz = .slice A cs.length c := by obtain ⟨A, c, h⟩ := rdI_slice2 hz; rw [List.length_map] at h; exact ⟨A, c, h⟩
      clear hb hz hzl hft d0 d1 d2 d3 d4
      go_wp2_with fail
      with_reducible refine HF5.out.mono ?_
      rintro e w6 ⟨rfl, hb⟩
      have HB6 := Lib.hid (HB5.out.trans (hb.mono HB5.out.size))
      clear hb
      go_wp2_with fail
      with_reducible refine (HA.out _ HB6.out).mono ?_
      rintro e w7 ⟨rfl, hb⟩
      go_wp2
      go_ret
      exact ⟨rfl, HB6.out.trans (hb.mono HB6.out.size)⟩
end Go.Proofs.Ytggeoloikkjipaa
