import Derived.Test.YteihjneeiojgaaaGreatSExJe
import Derived.Test.YteihjneeiojgaaaGreatQJb
import Derived.WalkKit
import Derived.WalkSpells
import Derived.WalkLawsBesides
import Derived.Deep.QuietTactic
import Derived.BigQuiet
import Derived.Handy
import Derived.Lib.Hide
/-
  The kind of an expression, by the reference: check, Check. Conditions: lengths, a bounded depth.
-/
namespace Go.Proofs.YteihjneeiojgaaaGreat
set_option maxRecDepth 100000
set_option linter.unusedVariables false
set_option linter.unusedSimpArgs false
open Go.RowKit

set_option maxRecDepth 100000 in
set_option maxHeartbeats 3200000 in
theorem rRes_1 (n k m : Int) (s nm : ByteArray) (A : Option Addr) (l c : Nat) (v u : Value) (w : World) :
    Calls Tryz.prog 105 #[.agg #[.int .i64 1, .int .i64 n, .int .i64 k, .int .i64 m, .string s, .string nm, .slice A l c], v, u] w fun e w' => e = .returned (kvR (k, true)) ∧ Below w.heap.size w w' := by
  have b1 := bel_mk w (.cells #[.int .i64 1, .int .i64 n, .int .i64 k, .int .i64 m, .string s, .string nm, .slice A l c] 73)
  unfold kvR
  go_enter Tryz.func105, Tryz.ntmps105
  go_wp2
  go_ret2
  exact ⟨rfl, b1⟩
set_option maxRecDepth 100000 in
set_option maxHeartbeats 3200000 in
theorem rRes_2 (n k m : Int) (s nm : ByteArray) (A : Option Addr) (l c : Nat) (v u : Value) (zs : List Int) (w : World) (L : Nat) (hu : RdI w L w.heap.size u zs) (hi : idxB n zs.length = true) :
    Calls Tryz.prog 105 #[.agg #[.int .i64 2, .int .i64 n, .int .i64 k, .int .i64 m, .string s, .string nm, .slice A l c], v, u] w fun e w' => e = .returned (kvR (zs.getD n.toNat 0, true)) ∧ Below w.heap.size w w' := by
  unfold idxB at hi
  simp only [Bool.and_eq_true, decide_eq_true_eq] at hi
  obtain ⟨j, rfl⟩ := Int.eq_ofNat_of_zero_le hi.1
  have hm : j < zs.length := by omega
  have hmi : (j : Int) < zs.length := by omega
  obtain ⟨A', c', rfl, _, hcz⟩ := hu
  obtain ⟨ad, rfl, _, hab, c0⟩ := hcz j _ (List.getElem?_eq_getElem hm)
  rw [show zs.getD ((j : Int).toNat) 0 = zs[j] by simp [hm]]
  generalize zs[j] = q at *
  have b1 := bel_mk w (.cells #[.int .i64 2, .int .i64 (j : Nat), .int .i64 k, .int .i64 m, .string s, .string nm, .slice A l c] 73)
  have d0 := (b1.cell (p := ad.add j) (by rw [add_block]; exact hab)).trans c0
  have HB := Lib.hid b1
  clear hcz c0 b1 hi
  unfold kvR
  go_enter Tryz.func105, Tryz.ntmps105
  go_wp2
  go_ret2
  exact ⟨rfl, HB.out⟩
theorem chkE_7 {op n k m : Int} {s nm : ByteArray} {l : Nat} {c : Int} (h : knw op = false) : chkE op n k m s nm l c = 7 := by unfold chkE; rw [if_pos h]
theorem chkE_8 {op n k m : Int} {s nm : ByteArray} {l : Nat} {c : Int} (h : knw op = true) (h2 : wfE op n k m s nm l = false) : chkE op n k m s nm l c = 8 := by unfold chkE; rw [if_neg (by simp [h]), if_pos h2]
theorem chkE_13 {op n k m : Int} {s nm : ByteArray} {l : Nat} {c : Int} (h : knw op = true) (h2 : wfE op n k m s nm l = true) (h3 : op = 2 ∧ idxB n c = false) : chkE op n k m s nm l c = 13 := by unfold chkE; rw [if_neg (by simp [h]), if_neg (by simp [h2]), if_pos h3]
theorem chkE_0 {op n k m : Int} {s nm : ByteArray} {l : Nat} {c : Int} (h : knw op = true) (h2 : wfE op n k m s nm l = true) (h3 : ¬ (op = 2 ∧ idxB n c = false)) : chkE op n k m s nm l c = 0 := by unfold chkE; rw [if_neg (by simp [h]), if_neg (by simp [h2]), if_neg h3]
theorem wf_21 {n k m : Int} {s nm : ByteArray} {l : Nat} (h : wfE 21 n k m s nm l = true) : l = 1 := by
  unfold wfE at h
  simp only [Bool.and_eq_true, decide_eq_true_eq] at h
  have h1 : opLo 21 = 1 := rfl
  have h2 : opHi 21 = 1 := rfl
  omega
set_option maxRecDepth 100000 in
set_option maxHeartbeats 12800000 in
theorem rChk_any (u2 : Value) (zs : List Int) : ∀ (d : Nat) (e : Ex) (u : Value) (w : World) (L L2 : Nat), RdE w L w.heap.size d u e.args → RdI w L2 w.heap.size u2 zs →
    Calls Tryz.prog 92 #[exV e u, u2] w fun e' w' => e' = .returned (resV (kndE zs d e)) ∧ Below w.heap.size w w'
  | 0, _, _, _, _, _, h, _ => h.elim
  | d + 1, e, u, w, L, L2, h, hz => by
    have IH := Lib.hid (rChk_any u2 zs d)
    obtain ⟨op, n, ⟨k1, k2, s⟩, nm, es⟩ := e
    unfold kndE exK exV
    dsimp only at h ⊢
    obtain ⟨A, c, rfl, hl, hc⟩ := h
    have HC := Lib.hid hc
    obtain ⟨A2, cz, rfl, hlz, hcz⟩ := hz
    have HZ := Lib.hid (show RdI w L2 w.heap.size (.slice A2 zs.length cz) zs from ⟨A2, cz, rfl, hlz, hcz⟩)
    clear hc hcz
    have HO := Lib.hid (Own.new w 73 #[.int .i64 op, .int .i64 n, .int .i64 k1, .int .i64 k2, .string s, .string nm, .slice A es.length c])
    have HB0 := Lib.hid (bel_mk w (.cells #[.int .i64 op, .int .i64 n, .int .i64 k1, .int .i64 k2, .string s, .string nm, .slice A es.length c] 73))
    have HF := Lib.hid (fun W => rFormed_any op n k1 k2 s nm A es.length c W hl)
    cases hK : knw op
    · rw [chkE_7 hK, if_pos (by decide)]
      have HA := Lib.hid (show ∀ W, Calls Tryz.prog 103 #[.int .i64 op] W fun e w' => e = .returned (.tuple #[.int .i64 (-1), .int .i64 (arHi op)]) ∧ Below W.heap.size W w' from fun W => by have h := rArity_any op W; rwa [show arLo op = -1 by unfold arLo; rw [hK]; rfl] at h)
      unfold resV
      generalize arHi op = b at *
      clear hK
      go_enter Tryz.func92, Tryz.ntmps92
      go_wp2_with fail
      with_reducible refine (HA.out _).mono ?_
      rintro e w1 ⟨rfl, hb1⟩
      go_wp2
      go_ret2
      exact ⟨rfl, HB0.out.trans (hb1.mono HB0.out.size)⟩
    have HA := Lib.hid (show ∀ W, Calls Tryz.prog 103 #[.int .i64 op] W fun e w' => e = .returned (.tuple #[.int .i64 (opLo op), .int .i64 (arHi op)]) ∧ Below W.heap.size W w' from fun W => by have h := rArity_any op W; rwa [ar_lo hK] at h)
    have hlo : ¬ opLo op < 0 := by unfold opLo; repeat' split <;> omega
    have HK := Lib.hid hK
    clear hK
    cases hW : wfE op n k1 k2 s nm es.length
    · rw [chkE_8 HK.out hW, if_pos (by decide)]
      rw [hW] at HF
      unfold resV
      generalize arHi op = b at *
      generalize opLo op = a at *
      clear hW
      go_enter Tryz.func92, Tryz.ntmps92
      go_wp2_with fail
      with_reducible refine (HA.out _).mono ?_
      rintro e w1 ⟨rfl, hb1⟩
      have o1 := HO.out.below hb1 HO.out.lt
      have x0 := o1.cell 0
      have x1 := o1.cell 1
      have x2 := o1.cell 2
      have x3 := o1.cell 3
      have x4 := o1.cell 4
      have x5 := o1.cell 5
      have x6 := o1.cell 6
      have B1 := Lib.hid (HB0.out.trans (hb1.mono HB0.out.size))
      clear hb1 o1
      go_wp2_with fail
      with_reducible refine (HF.out _).mono ?_
      rintro e w2 ⟨rfl, hb2⟩
      go_wp2
      go_ret2
      exact ⟨rfl, B1.out.trans (hb2.mono B1.out.size)⟩
    rw [hW] at HF
    by_cases h13 : op = 2 ∧ idxB n zs.length = false
    · rw [chkE_13 HK.out hW h13, if_pos (by decide)]
      obtain ⟨rfl, hi⟩ := h13
      have hi2 : n < 0 ∨ (zs.length : Int) ≤ n := by
        unfold idxB at hi
        by_cases h0 : 0 ≤ n
        · by_cases h1 : n < zs.length
          · rw [decide_eq_true h0, decide_eq_true h1] at hi; cases hi
          · omega
        · omega
      unfold resV
      generalize arHi 2 = b at *
      generalize opLo 2 = a at *
      clear hW hi HK
      have hi3 : n < 0 ∨ (¬ n < 0 ∧ (n : Int) ≥ zs.length) := by omega
      rcases hi3 with h0 | ⟨h0, h1⟩
      all_goals
        go_enter Tryz.func92, Tryz.ntmps92
        go_wp2_with fail
        with_reducible refine (HA.out _).mono ?_
        rintro e w1 ⟨rfl, hb1⟩
        have o1 := HO.out.below hb1 HO.out.lt
        have x0 := o1.cell 0
        have x1 := o1.cell 1
        have x2 := o1.cell 2
        have x3 := o1.cell 3
        have x4 := o1.cell 4
        have x5 := o1.cell 5
        have x6 := o1.cell 6
        have B1 := Lib.hid (HB0.out.trans (hb1.mono HB0.out.size))
        clear hb1
        go_wp2_with fail
        with_reducible refine (HF.out _).mono ?_
        rintro e w2 ⟨rfl, hb2⟩
        have o2 := o1.below hb2 o1.lt
        have y0 := o2.cell 0
        have y1 := o2.cell 1
        have B2 := Lib.hid (B1.out.trans (hb2.mono B1.out.size))
        clear hb2 o1 o2 x0 x1 x2 x3 x4 x5 x6
        go_wp2
        go_ret2
        exact ⟨rfl, B2.out⟩
    rw [chkE_0 HK.out hW h13, if_neg (by simp)]
    generalize hP : (if ersK (kndE zs d) es ≠ 0 then (0, ersK (kndE zs d) es) else if op = 1 then (k1, 0) else if op = 2 then (zs.getD n.toNat 0, 0) else resG op (es.map fun a => (kndE zs d a).1)) = P
    have HP := Lib.hid hP
    have HW := Lib.hid hW
    have H13 := Lib.hid (show op = 2 → idxB n zs.length = true from fun ho => by cases hb : idxB n zs.length with | true => rfl | false => exact absurd ⟨ho, hb⟩ h13)
    clear hP hW h13
    obtain ⟨P1, P2⟩ := P
    unfold resV
    dsimp only
    generalize arHi op = b at *
    generalize opLo op = a at *
    have hcond : op = 2 → (¬ n < 0 ∧ ¬ (n : Int) ≥ zs.length) := fun ho => by
      have h := H13.out ho
      unfold idxB at h
      simp only [Bool.and_eq_true, decide_eq_true_eq] at h
      omega
    have HCO := Lib.hid hcond
    clear hcond
    by_cases o2q : op = 2
    · subst o2q
      obtain ⟨hc0, hc1⟩ := HCO.out rfl
      go_enter Tryz.func92, Tryz.ntmps92
      go_wp2_with fail
      with_reducible refine (HA.out _).mono ?_
      rintro e w1 ⟨rfl, hb1⟩
      have o1 := HO.out.below hb1 HO.out.lt
      have x0 := o1.cell 0
      have x1 := o1.cell 1
      have x2 := o1.cell 2
      have x3 := o1.cell 3
      have x4 := o1.cell 4
      have x5 := o1.cell 5
      have x6 := o1.cell 6
      have B1 := Lib.hid (HB0.out.trans (hb1.mono HB0.out.size))
      clear hb1
      go_wp2_with fail
      with_reducible refine (HF.out _).mono ?_
      rintro e w2 ⟨rfl, hb2⟩
      have o2 := o1.below hb2 o1.lt
      have y0 := o2.cell 0
      have y1 := o2.cell 1
      have B2 := Lib.hid (B1.out.trans (hb2.mono B1.out.size))
      have hg0 : w.heap.size < w2.heap.size := o2.lt
      have o3 := o2.alloc (.cells #[] 3)
      have y6 := o3.cell 6
      have HO3 := Lib.hid o3
      have HB3 := Lib.hid (B2.out.trans ((bel_mk w2 (.cells #[] 3)).mono B2.out.size))
      have HR0 := Lib.hid (show (w2.alloc (.cells #[] 3)).ownsRow w2.heap.size 3 1 (.slice (some ⟨w2.heap.size, 0, none⟩) 0 0) ((es.take 0).map fun a => (kndE zs d a).1).length (intsV ((es.take 0).map fun a => (kndE zs d a).1)) from
        ⟨rfl, .inr ⟨w2.heap.size, 0, #[], rfl, Nat.le_refl _, heap_alloc_new w2 (.cells #[] 3), Nat.le_refl _, Nat.zero_le _, rfl, rfl⟩⟩)
      clear hb2 o1 o2 o3 x0 x1 x2 x3 x4 x5 x6 B1 B2
      go_wp2_with fail
      clear y0 y1 y6
      generalize hgg : w2.heap.size = g at *
      go_loopw [8, 9, 10, 11] (fun vb i _ _ wr => ∃ k : Nat, k ≤ es.length ∧ i = .int .i64 k ∧ Hid (ersK (kndE zs d) es = ersK (kndE zs d) (es.drop k)) ∧ Hid (wr.ownsRow g 3 1 vb ((es.take k).map fun a => (kndE zs d a).1).length (intsV ((es.take k).map fun a => (kndE zs d a).1))) ∧ Hid (Own wr w.heap.size 73 #[.int .i64 2, .int .i64 n, .int .i64 k1, .int .i64 k2, .string s, .string nm, .slice A es.length c]) ∧ Hid (g ≤ wr.heap.size) ∧ Below w.heap.size w wr) (fun _ i _ _ _ => es.length - (intOf i).toNat)
      case atStart => exact ⟨0, Nat.zero_le _, rfl, Lib.hid rfl, HR0, HO3, Lib.hid (by have := (bel_mk w2 (.cells #[] 3)).size; omega), HB3.out⟩
      case round =>
        clear HR0 HO3 HB3
        obtain ⟨k, hk, rfl, HE, HR, HOw, HG, hbr⟩ := hrel
        have hbz := hbr.size
        have z6 := HOw.out.cell 6
        by_cases hlt : k < es.length
        · have hki : (k : Int) < es.length := by omega
          obtain ⟨ad, x, rfl, _, hab, hxc, hxr⟩ := HC.out k _ (List.getElem?_eq_getElem hlt)
          obtain ⟨A3, c3, rfl, hl3⟩ := hxr.slice
          have hx := hxc.below hbr (by rw [add_blk]; exact hab)
          have hed := ersK_drop (kndE zs d) es k _ (List.getElem?_eq_getElem hlt)
          rw [← HE.out] at hed
          have htk : (es.take (k + 1)).map (fun a => (kndE zs d a).1) = (es.take k).map (fun a => (kndE zs d a).1) ++ [(kndE zs d es[k]).1] := by rw [List.take_add_one, List.getElem?_eq_getElem hlt, List.map_append]; rfl
          have RX := (hxr.below hbr).more hbz (Nat.le_refl _)
          clear hxc hxr
          generalize es[k] = y at *
          obtain ⟨d0, d1, d2, d3, d4, d5, d6⟩ := hx
          have hcall := IH.out y (.slice A3 y.args.length c3) wr L L2 RX (HZ.out.step hbr (Nat.le_refl _))
          unfold exV resV at hcall
          have HX := Lib.hid hcall
          generalize kndE zs d y = r at *
          obtain ⟨r1, r2⟩ := r
          dsimp only at hed htk HX
          have HED := Lib.hid hed
          have HTK := Lib.hid htk
          have hlz : ((es.take k).map fun a => (kndE zs d a).1).length = k := by rw [List.length_map, List.length_take]; omega
          have HLZ := Lib.hid (show ((es.take k).map fun a => (kndE zs d a).1).length ≤ 1099511627776 by omega)
          clear hcall hed htk RX hlz HE
          go_wp2_with fail
          with_reducible refine HX.out.mono ?_
          rintro e w4 ⟨rfl, hb4⟩
          have HO4 := Lib.hid (HOw.out.below hb4 HOw.out.lt)
          have HR4 := Lib.hid (own_below HR.out hb4)
          have HB4 := Lib.hid (hbr.trans (hb4.mono hbz))
          have HG4 := Lib.hid (Nat.le_trans HG.out hb4.size)
          clear hb4 HX HOw HR z6
          by_cases hr : r2 = 0
          · subst hr
            have HE2 := Lib.hid (show ersK (kndE zs d) es = ersK (kndE zs d) (es.drop (k + 1)) by have := HED.out; simpa using this)
            clear HED
            have b5 := bel_mk w4 (.cells #[.int .i64 r1] 3)
            have HR5 := Lib.hid (own_below HR4.out b5)
            have HC5 := Lib.hid (show (w4.alloc (.cells #[.int .i64 r1] 3)).cell? ⟨w4.heap.size, 0, none⟩ = some (.int .i64 r1) from (Own.new w4 3 #[.int .i64 r1]).cell 0)
            have HO5 := Lib.hid (HO4.out.below b5 HO4.out.lt)
            have HB5 := Lib.hid (HB4.out.trans (b5.mono HB4.out.size))
            have HG5 := Lib.hid (Nat.le_trans HG4.out b5.size)
            clear b5 HR4 HO4
            go_wp2_with (at_builtin; refine append_i _ rfl _ _ rfl g _ ((es.take k).map fun a => (kndE zs d a).1) rfl HR5.out w4.heap.size 1 r1 rfl HC5.out HLZ.out HG5.out ?_; intro v5 w5 hR5 hb5)
            have HO6 := Lib.hid (HO5.out.below hb5 hg0)
            have HB6 := Lib.hid (HB5.out.trans (hb5.mono (Nat.le_of_lt hg0)))
            have HG6 := Lib.hid (Nat.le_trans HG5.out hb5.size)
            rw [← HTK.out] at hR5
            have HR6 := Lib.hid hR5
            clear hb5 hR5
            go_roundw
            case rel => exact ⟨k + 1, by omega, by go_num, HE2, HR6, HO6, HG6, HB6.out⟩
            case measure => simp [intOf]; omega
          · have e1 : (r2 != 0) = true := by simp [hr]
            have HQ := Lib.hid (show (P1, P2) = ((0 : Int), r2) by have h1 := HED.out; rw [if_neg hr] at h1; rw [← HP.out, h1, if_pos hr])
            clear HED HP
            go_wp2
            go_ret2
            exact ⟨by have := HQ.out; injection this with h1 h2; rw [h1, h2]; rfl, HB4.out⟩
        · have hki : ¬ (k : Int) < es.length := by omega
          have hek : k = es.length := by omega
          subst hek
          have x0 := HOw.out.cell 0
          have x1 := HOw.out.cell 1
          have x2 := HOw.out.cell 2
          have x3 := HOw.out.cell 3
          have x4 := HOw.out.cell 4
          have x5 := HOw.out.cell 5
          have he0 : ersK (kndE zs d) es = 0 := by rw [HE.out, List.drop_eq_nil_of_le (Nat.le_refl _)]; rfl
          have hp1 := HP.out
          rw [he0, if_neg (by simp)] at hp1
          have HP1 := Lib.hid hp1
          have hrow := HR.out
          rw [List.take_length] at hrow
          have hml : (es.map fun a => (kndE zs d a).1).length = es.length := List.length_map _
          have hrd := rdI_own hrow (by omega)
          generalize (es.map fun a => (kndE zs d a).1) = qs at *
          have HCL := Lib.hid (rRes_2 n k1 k2 s nm A es.length c _ (.slice A2 zs.length cz) zs wr L2 (HZ.out.step hbr (Nat.le_refl _)) (H13.out (by first | rfl | trivial)) : Calls _ _ #[_, u8, _] _ _)
          have HQ := Lib.hid (show ((zs.getD n.toNat 0, 0) : Int × Int) = (P1, P2) by have h1 := HP1.out; rwa [if_neg (by decide), if_pos trivial] at h1)
          generalize zs.getD n.toNat 0 = q at *
          unfold kvR at HCL
          clear HP1 HP HE HR hrow hrd hml he0 hp1
          go_wp2_with fail
          with_reducible refine HCL.out.mono ?_
          rintro e w6 ⟨rfl, hb6⟩
          go_wp2
          go_ret2
          exact ⟨by have := HQ.out; injection this with h1 h2; rw [← h1, ← h2]; rfl, hbr.trans (hb6.mono hbz)⟩
    · have jq : (op == 2) = false := by simpa using o2q
      go_enter Tryz.func92, Tryz.ntmps92
      go_wp2_with fail
      with_reducible refine (HA.out _).mono ?_
      rintro e w1 ⟨rfl, hb1⟩
      have o1 := HO.out.below hb1 HO.out.lt
      have x0 := o1.cell 0
      have x1 := o1.cell 1
      have x2 := o1.cell 2
      have x3 := o1.cell 3
      have x4 := o1.cell 4
      have x5 := o1.cell 5
      have x6 := o1.cell 6
      have B1 := Lib.hid (HB0.out.trans (hb1.mono HB0.out.size))
      clear hb1
      go_wp2_with fail
      with_reducible refine (HF.out _).mono ?_
      rintro e w2 ⟨rfl, hb2⟩
      have o2 := o1.below hb2 o1.lt
      have y0 := o2.cell 0
      have y1 := o2.cell 1
      have B2 := Lib.hid (B1.out.trans (hb2.mono B1.out.size))
      have hg0 : w.heap.size < w2.heap.size := o2.lt
      have o3 := o2.alloc (.cells #[] 3)
      have y6 := o3.cell 6
      have HO3 := Lib.hid o3
      have HB3 := Lib.hid (B2.out.trans ((bel_mk w2 (.cells #[] 3)).mono B2.out.size))
      have HR0 := Lib.hid (show (w2.alloc (.cells #[] 3)).ownsRow w2.heap.size 3 1 (.slice (some ⟨w2.heap.size, 0, none⟩) 0 0) ((es.take 0).map fun a => (kndE zs d a).1).length (intsV ((es.take 0).map fun a => (kndE zs d a).1)) from
        ⟨rfl, .inr ⟨w2.heap.size, 0, #[], rfl, Nat.le_refl _, heap_alloc_new w2 (.cells #[] 3), Nat.le_refl _, Nat.zero_le _, rfl, rfl⟩⟩)
      clear hb2 o1 o2 o3 x0 x1 x2 x3 x4 x5 x6 B1 B2
      go_wp2_with fail
      clear y0 y1 y6
      generalize hgg : w2.heap.size = g at *
      go_loopw [8, 9, 10, 11] (fun vb i _ _ wr => ∃ k : Nat, k ≤ es.length ∧ i = .int .i64 k ∧ Hid (ersK (kndE zs d) es = ersK (kndE zs d) (es.drop k)) ∧ Hid (wr.ownsRow g 3 1 vb ((es.take k).map fun a => (kndE zs d a).1).length (intsV ((es.take k).map fun a => (kndE zs d a).1))) ∧ Hid (Own wr w.heap.size 73 #[.int .i64 op, .int .i64 n, .int .i64 k1, .int .i64 k2, .string s, .string nm, .slice A es.length c]) ∧ Hid (g ≤ wr.heap.size) ∧ Below w.heap.size w wr) (fun _ i _ _ _ => es.length - (intOf i).toNat)
      case atStart => exact ⟨0, Nat.zero_le _, rfl, Lib.hid rfl, HR0, HO3, Lib.hid (by have := (bel_mk w2 (.cells #[] 3)).size; omega), HB3.out⟩
      case round =>
        clear HR0 HO3 HB3
        obtain ⟨k, hk, rfl, HE, HR, HOw, HG, hbr⟩ := hrel
        have hbz := hbr.size
        have z6 := HOw.out.cell 6
        by_cases hlt : k < es.length
        · have hki : (k : Int) < es.length := by omega
          obtain ⟨ad, x, rfl, _, hab, hxc, hxr⟩ := HC.out k _ (List.getElem?_eq_getElem hlt)
          obtain ⟨A3, c3, rfl, hl3⟩ := hxr.slice
          have hx := hxc.below hbr (by rw [add_blk]; exact hab)
          have hed := ersK_drop (kndE zs d) es k _ (List.getElem?_eq_getElem hlt)
          rw [← HE.out] at hed
          have htk : (es.take (k + 1)).map (fun a => (kndE zs d a).1) = (es.take k).map (fun a => (kndE zs d a).1) ++ [(kndE zs d es[k]).1] := by rw [List.take_add_one, List.getElem?_eq_getElem hlt, List.map_append]; rfl
          have RX := (hxr.below hbr).more hbz (Nat.le_refl _)
          clear hxc hxr
          generalize es[k] = y at *
          obtain ⟨d0, d1, d2, d3, d4, d5, d6⟩ := hx
          have hcall := IH.out y (.slice A3 y.args.length c3) wr L L2 RX (HZ.out.step hbr (Nat.le_refl _))
          unfold exV resV at hcall
          have HX := Lib.hid hcall
          generalize kndE zs d y = r at *
          obtain ⟨r1, r2⟩ := r
          dsimp only at hed htk HX
          have HED := Lib.hid hed
          have HTK := Lib.hid htk
          have hlz : ((es.take k).map fun a => (kndE zs d a).1).length = k := by rw [List.length_map, List.length_take]; omega
          have HLZ := Lib.hid (show ((es.take k).map fun a => (kndE zs d a).1).length ≤ 1099511627776 by omega)
          clear hcall hed htk RX hlz HE
          go_wp2_with fail
          with_reducible refine HX.out.mono ?_
          rintro e w4 ⟨rfl, hb4⟩
          have HO4 := Lib.hid (HOw.out.below hb4 HOw.out.lt)
          have HR4 := Lib.hid (own_below HR.out hb4)
          have HB4 := Lib.hid (hbr.trans (hb4.mono hbz))
          have HG4 := Lib.hid (Nat.le_trans HG.out hb4.size)
          clear hb4 HX HOw HR z6
          by_cases hr : r2 = 0
          · subst hr
            have HE2 := Lib.hid (show ersK (kndE zs d) es = ersK (kndE zs d) (es.drop (k + 1)) by have := HED.out; simpa using this)
            clear HED
            have b5 := bel_mk w4 (.cells #[.int .i64 r1] 3)
            have HR5 := Lib.hid (own_below HR4.out b5)
            have HC5 := Lib.hid (show (w4.alloc (.cells #[.int .i64 r1] 3)).cell? ⟨w4.heap.size, 0, none⟩ = some (.int .i64 r1) from (Own.new w4 3 #[.int .i64 r1]).cell 0)
            have HO5 := Lib.hid (HO4.out.below b5 HO4.out.lt)
            have HB5 := Lib.hid (HB4.out.trans (b5.mono HB4.out.size))
            have HG5 := Lib.hid (Nat.le_trans HG4.out b5.size)
            clear b5 HR4 HO4
            go_wp2_with (at_builtin; refine append_i _ rfl _ _ rfl g _ ((es.take k).map fun a => (kndE zs d a).1) rfl HR5.out w4.heap.size 1 r1 rfl HC5.out HLZ.out HG5.out ?_; intro v5 w5 hR5 hb5)
            have HO6 := Lib.hid (HO5.out.below hb5 hg0)
            have HB6 := Lib.hid (HB5.out.trans (hb5.mono (Nat.le_of_lt hg0)))
            have HG6 := Lib.hid (Nat.le_trans HG5.out hb5.size)
            rw [← HTK.out] at hR5
            have HR6 := Lib.hid hR5
            clear hb5 hR5
            go_roundw
            case rel => exact ⟨k + 1, by omega, by go_num, HE2, HR6, HO6, HG6, HB6.out⟩
            case measure => simp [intOf]; omega
          · have e1 : (r2 != 0) = true := by simp [hr]
            have HQ := Lib.hid (show (P1, P2) = ((0 : Int), r2) by have h1 := HED.out; rw [if_neg hr] at h1; rw [← HP.out, h1, if_pos hr])
            clear HED HP
            go_wp2
            go_ret2
            exact ⟨by have := HQ.out; injection this with h1 h2; rw [h1, h2]; rfl, HB4.out⟩
        · have hki : ¬ (k : Int) < es.length := by omega
          have hek : k = es.length := by omega
          subst hek
          have x0 := HOw.out.cell 0
          have x1 := HOw.out.cell 1
          have x2 := HOw.out.cell 2
          have x3 := HOw.out.cell 3
          have x4 := HOw.out.cell 4
          have x5 := HOw.out.cell 5
          have he0 : ersK (kndE zs d) es = 0 := by rw [HE.out, List.drop_eq_nil_of_le (Nat.le_refl _)]; rfl
          have hp1 := HP.out
          rw [he0, if_neg (by simp)] at hp1
          have HP1 := Lib.hid hp1
          have hrow := HR.out
          rw [List.take_length] at hrow
          have hml : (es.map fun a => (kndE zs d a).1).length = es.length := List.length_map _
          have hrd := rdI_own hrow (by omega)
          generalize (es.map fun a => (kndE zs d a).1) = qs at *
          have hcl : ∃ p : Int × Bool, finX p = (P1, P2) ∧ Calls Tryz.prog 105 #[.agg #[.int .i64 op, .int .i64 n, .int .i64 k1, .int .i64 k2, .string s, .string nm, .slice A es.length c], u8, .slice A2 zs.length cz] wr fun e w' => e = .returned (kvR p) ∧ Below wr.heap.size wr w' := by
            by_cases o1 : op = 1
            · subst o1
              exact ⟨(k1, true), by have h1 := HP1.out; rw [if_pos rfl] at h1; exact h1, rRes_1 n k1 k2 s nm A es.length c _ _ wr⟩
            have hsm : finX (resX op qs) = (P1, P2) := by
              have h1 := HP1.out
              rw [if_neg o1, if_neg o2q] at h1
              rw [← h1]
              exact (res_same HK.out o1 o2q (fun ho => by subst ho; rw [hml]; exact wf_21 HW.out) (fun ho => by subst ho; rw [hml]; exact wf_if HW.out)).symm
            refine ⟨resX op qs, hsm, ?_⟩
            rcases knw_c HK.out with rfl | rfl | h | h | h | rfl | rfl | rfl | rfl | rfl | rfl
            · exact absurd rfl o1
            · exact absurd rfl o2q
            · rcases h with rfl | rfl | rfl
              · exact rRes_4 n k1 k2 s nm A es.length c _ _ qs wr 0 hrd
              · exact rRes_5 n k1 k2 s nm A es.length c _ _ qs wr 0 hrd
              · exact rRes_6 n k1 k2 s nm A es.length c _ _ qs wr 0 hrd
            · rcases h with rfl | rfl | rfl | rfl | rfl | rfl
              · exact rRes_7 n k1 k2 s nm A es.length c _ _ qs wr 0 hrd
              · exact rRes_8 n k1 k2 s nm A es.length c _ _ qs wr 0 hrd
              · exact rRes_9 n k1 k2 s nm A es.length c _ _ qs wr 0 hrd
              · exact rRes_10 n k1 k2 s nm A es.length c _ _ qs wr 0 hrd
              · exact rRes_11 n k1 k2 s nm A es.length c _ _ qs wr 0 hrd
              · exact rRes_12 n k1 k2 s nm A es.length c _ _ qs wr 0 hrd
            · rcases h with rfl | rfl | rfl | rfl | rfl | rfl
              · exact rRes_13 n k1 k2 s nm A es.length c _ _ qs wr 0 hrd
              · exact rRes_14 n k1 k2 s nm A es.length c _ _ qs wr 0 hrd
              · exact rRes_15 n k1 k2 s nm A es.length c _ _ qs wr 0 hrd
              · exact rRes_16 n k1 k2 s nm A es.length c _ _ qs wr 0 hrd
              · exact rRes_17 n k1 k2 s nm A es.length c _ _ qs wr 0 hrd
              · exact rRes_18 n k1 k2 s nm A es.length c _ _ qs wr 0 hrd
            · exact rRes_19 n k1 k2 s nm A es.length c _ _ qs wr 0 hrd
            · exact rRes_20 n k1 k2 s nm A es.length c _ _ qs wr 0 hrd
            · exact rRes_21 n k1 k2 s nm A es.length c _ _ qs wr 0 hrd
            · have h3 := wf_if HW.out
              rw [h3] at hml
              obtain ⟨z1, z2, z3, rfl⟩ : ∃ z1 z2 z3, qs = [z1, z2, z3] := by
                match qs, hml with
                | [z1, z2, z3], _ => exact ⟨z1, z2, z3, rfl⟩
              rcases hrow.2 with ⟨_, h0⟩ | ⟨g2, cap, cur, hv, _, _, hnc, _⟩
              · simp at h0
              · subst hv
                exact rRes_22 n k1 k2 s nm A es.length c g2 cap _ z1 z2 z3 wr 0 hnc hrd
            · exact rRes_23 n k1 k2 s nm A es.length c _ _ qs wr 0 hrd
            · exact rRes_24 n k1 k2 s nm A es.length c _ _ qs wr 0 hrd
          obtain ⟨⟨p1, p2⟩, hfx, hcl⟩ := hcl
          unfold kvR at hcl
          have HCL := Lib.hid hcl
          have HQ := Lib.hid hfx
          clear HP1 HP HE HR hrow hrd hml he0 hp1 hcl hfx
          cases p2
          all_goals
            go_wp2_with fail
            with_reducible refine HCL.out.mono ?_
            rintro e w6 ⟨rfl, hb6⟩
            go_wp2
            go_ret2
            exact ⟨by have := HQ.out; injection this with h1 h2; rw [← h1, ← h2]; rfl, hbr.trans (hb6.mono hbz)⟩
end Go.Proofs.YteihjneeiojgaaaGreat
