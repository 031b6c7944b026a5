/-
  begins of the statements, and the walk of CodecSpare. Conditions: lengths, numbers of 64 bits.
-/
import Derived.Test.YtomiegfblhhhpaaCoR
import Derived.Test.YtomiegfblhhhpaaCoPq
import Derived.Test.YtomiegfblhhhpaaCoW
import Derived.Deep.RegionHeld3
import Derived.WalkKit
import Derived.WalkSpells
import Derived.WalkLawsBesides
import Derived.Deep.QuietTactic
import Derived.BigQuiet
import Derived.Handy
import Derived.Lib.Hide
namespace Go.Proofs.Ytomiegfblhhhpaa
open Go.RowKit

set_option maxRecDepth 100000 in
set_option maxHeartbeats 1600000 in
theorem begins_any (v u : Value) (P X : List UInt8) (w : World) (L L2 : Nat) (hv : RdB w L w.heap.size v (P ++ X)) (hu : RdB w L2 w.heap.size u P) :
    Calls Try.prog 41 #[v, u] w fun e w' => e = .returned (.bool true) ∧ Below w.heap.size w w' := by
  obtain ⟨A, c, rfl, hl1, hlc, hx⟩ := hv
  obtain ⟨A2, c2, rfl, hl2, hlc2, hx2⟩ := hu
  have hle : P.length ≤ (P ++ X).length := by rw [List.length_append]; omega
  have ht := rdB_take (show RdB w L w.heap.size _ (P ++ X) from ⟨A, c, rfl, hl1, hlc, hx⟩) P.length c hle (by omega)
  rw [List.take_left'  rfl] at ht
  have hq1 := fun p : After w => conv_rdB (ht.below p.h)
  have hq2 := fun p : After w => conv_rdB ((show RdB w L2 w.heap.size _ P from ⟨A2, c2, rfl, hl2, hlc2, hx2⟩).below p.h)
  generalize ByteArray.mk P.toArray = S at *
  generalize (P ++ X).length = N at *
  generalize P.length = M at *
  have hge : (N : Int) ≥ M := by omega
  have hmi : (M : Int) ≤ c := by omega
  clear ht hx hx2
  go_enter Try.func41, Try.ntmps41
  go_wp2_with fail
  (refine wp_region_after (by kernel_rfl) (by kernel_rfl) ?_; (repeat (go_big_quiet_step (fail))); refine wpQuiet_nil ?_; intro wq hw0; obtain ⟨⟨wq0, hbq⟩, hw1⟩ := hw0; subst hw1; (try dsimp only))
  go_wp2
  go_ret
  exact ⟨by simp, hbq⟩
theorem rdV_lit (w : World) (a b : Int) (s : ByteArray) : RdV (w.alloc (.cells #[.int .i64 a, .int .i64 b, .string s] 35)) 0 (w.alloc (.cells #[.int .i64 a, .int .i64 b, .string s] 35)).heap.size (.slice (some ⟨w.heap.size, 0, none⟩) 1 1) [(a, b, s)] := by
  have o := Own.new w 35 #[.int .i64 a, .int .i64 b, .string s]
  refine ⟨_, _, rfl, by simp, fun k p hk => ⟨_, rfl, Nat.zero_le _, o.lt, ?_⟩⟩
  have hk2 : k = 0 := by have := (List.getElem?_eq_some_iff.1 hk).1; simpa using this
  subst hk2
  have e : (a, b, s) = p := by simpa using hk
  subst e
  exact ⟨o.cell 0, o.cell 1, o.cell 2⟩
theorem encV_pos (p : Vl) : 0 < (encV p).length := by
  unfold encV
  split
  · simp
  · split
    · simp
    · split <;> simp
set_option maxRecDepth 100000 in
set_option maxHeartbeats 12800000 in
theorem law_spare (v : Value) (l : List UInt8) (cut kd m : Int) (s : ByteArray) (n : Int) (w : World) (L : Nat) (hv : RdB w L w.heap.size v l) (hn : I64 n) (hl : l.length + s.size ≤ 140737488350000) :
    Calls Try.prog 10 #[v, .int .i64 cut, .agg #[.int .i64 kd, .int .i64 m, .string s], .int .i64 n] w fun e w' => e = .returned (.bool true) ∧ Below w.heap.size w w' := by
  have bW := bel_mark w (.cells #[.int .i64 kd, .int .i64 m, .string s] 35)
  have oW := Own.new w 35 #[.int .i64 kd, .int .i64 m, .string s]
  have hvd := rValid_any kd m s (w.alloc (.cells #[.int .i64 kd, .int .i64 m, .string s] 35))
  unfold valV at hvd
  dsimp only at hvd
  cases hok : okP (kd, m, s)
  · rw [hok] at hvd
    clear hok oW
    obtain ⟨A, c, rfl, _⟩ := hv
    go_enter Try.func10, Try.ntmps10
    go_wp2_with fail
    generalize w.alloc (.cells #[.int .i64 kd, .int .i64 m, .string s] 35) = W at *
    with_reducible refine hvd.mono ?_
    rintro e w1 ⟨rfl, hb1⟩
    have hwk := works_any w1
    go_wp2_with fail
    with_reducible refine hwk.mono ?_
    rintro e w2 ⟨rfl, hb2⟩
    go_wp2_with fail
    go_ret
    exact ⟨rfl, (bW.trans (hb1.mono bW.size)).trans (hb2.mono (Nat.le_trans bW.size hb1.size))⟩
  · rw [hok] at hvd
    obtain ⟨k, hk, hkl⟩ : ∃ k : Nat, max 0 (min cut (l.length : Int)) = (k : Int) ∧ k ≤ l.length := ⟨(max 0 (min cut (l.length : Int))).toNat, by omega, by omega⟩
    have hstr := fun W (h : Below w.heap.size w W) => conv_rdB (hv.step h (Nat.le_refl _))
    have hv0 := hv
    obtain ⟨A, c, rfl, hl63, hlc, _⟩ := hv0
    have hb := fun W (h : Below w.heap.size w W) => rdB_take (hv.step h (Nat.le_refl _)) k c hkl (by omega)
    have hkt : (l.take k).length = k := by rw [List.length_take]; omega
    have htx : (⟨#[116, 101, 120, 116]⟩ : ByteArray).size = 4 := rfl
    have h1 := fun W (h : Below w.heap.size w W) => PutInt_any (.slice A k c) (l.take k) n hn W L (hb W h) (by omega)
    have h2 := fun W (h : Below w.heap.size w W) => PutText_any (.slice A k c) (l.take k) ⟨#[116, 101, 120, 116]⟩ W L (hb W h) (by omega)
    have h3 := fun W (h : Below w.heap.size w W) => PutValue_any (.slice A k c) (l.take k) (kd, m, s) hok W L (hb W h) (by dsimp only; omega)
    have h4 := fun W u L2 (h : Below w.heap.size w W) (hu : RdV W L2 W.heap.size u [(kd, m, s)]) => pPutRow_any (.slice A k c) u (l.take k) [(kd, m, s)] (by unfold okL; simpa using hok) W L L2 (hb W h) hu (by unfold szL; simp; omega) (by simp)
    have h5 := fun W (h : Below w.heap.size w W) => PutPeriod_any (.slice A k c) (l.take k) n n hn hn W L (hb W h) (by omega)
    unfold valV at h3
    dsimp only at h3
    have l1 := vint_len10 (zig_lt hn)
    have e1 : 0 < (vint (zig n)).length := vint_pos _
    have e2 : 0 < (textB ⟨#[116, 101, 120, 116]⟩).length := by unfold textB; simp
    have l2 : (textB ⟨#[116, 101, 120, 116]⟩).length ≤ 100 := by
      unfold textB
      have := vint_len10 (zig_lt (show I64 ((⟨#[116, 101, 120, 116]⟩ : ByteArray).size : Int) from ⟨by decide, by decide⟩))
      rw [List.length_append, size_list]; omega
    have e3 := encV_pos (kd, m, s)
    have l3 := encV_len (kd, m, s) hok
    dsimp only at l3
    have e4 : 0 < (encR [(kd, m, s)]).length := by unfold encR; rw [List.length_append]; have := vint_pos (zig ([(kd, m, s)] : List Vl).length); omega
    have l4 : (encR [(kd, m, s)]).length ≤ 100 + s.size := by
      unfold encR encs
      have := vint_len10 (zig_lt (show I64 (([(kd, m, s)] : List Vl).length : Int) from ⟨show (-9223372036854775808 : Int) ≤ 1 by decide, show (1 : Int) ≤ 9223372036854775807 by decide⟩))
      simp only [List.map_cons, List.map_nil, List.flatten_cons, List.flatten_nil, List.length_append, List.append_nil]
      omega
    have e5 : 0 < (perB n n).length := by unfold perB; rw [List.length_append]; omega
    have l5 : (perB n n).length ≤ 100 := by unfold perB; rw [List.length_append]; omega
    generalize vint (zig n) = X1 at *
    generalize textB ⟨#[116, 101, 120, 116]⟩ = X2 at *
    generalize encV (kd, m, s) = X3 at *
    generalize encR [(kd, m, s)] = X4 at *
    generalize perB n n = X5 at *
    have HL1 := Lib.hid (show (l.take k ++ X1).length ≤ 9223372036854775807 ∧ 0 < X1.length by rw [List.length_append]; omega)
    have H1 := Lib.hid h1
    have HL2 := Lib.hid (show (l.take k ++ X2).length ≤ 9223372036854775807 ∧ 0 < X2.length by rw [List.length_append]; omega)
    have H2 := Lib.hid h2
    have HL3 := Lib.hid (show (l.take k ++ X3).length ≤ 9223372036854775807 ∧ 0 < X3.length by rw [List.length_append]; omega)
    have H3 := Lib.hid h3
    have HL4 := Lib.hid (show (l.take k ++ X4).length ≤ 9223372036854775807 ∧ 0 < X4.length by rw [List.length_append]; omega)
    have H4 := Lib.hid h4
    have HL5 := Lib.hid (show (l.take k ++ X5).length ≤ 9223372036854775807 ∧ 0 < X5.length by rw [List.length_append]; omega)
    have H5 := Lib.hid h5
    have HS0 := Lib.hid hstr
    have HBT := Lib.hid hb
    have HKT := Lib.hid hkt
    have HKL := Lib.hid hkl
    generalize l.take k = P at *
    generalize ByteArray.mk l.toArray = ss at *
    have hmi : (k : Int) ≤ c := by omega
    clear hstr hb hkt hok hn hl h1 h2 h3 h4 h5 l1 l2 l3 l4 l5 e1 e2 e3 e4 e5 htx
    go_enter Try.func10, Try.ntmps10
    go_wp2_with fail
    generalize w.alloc (.cells #[.int .i64 kd, .int .i64 m, .string s] 35) = W at *
    with_reducible refine hvd.mono ?_
    rintro e w1 ⟨rfl, hb1⟩
    clear hvd
    have B1 := bW.trans (hb1.mono bW.size)
    have o1 := oW.below hb1 oW.lt
    have d0 := o1.cell 0; have d1 := o1.cell 1; have d2 := o1.cell 2
    (try simp only [List.getElem?_toArray, List.getElem?_cons_zero, List.getElem?_cons_succ] at d0 d1 d2)
    have hcv := HS0.out w1 B1
    have b2 := bel_mark w1 (.cells #[.int .i64 kd, .int .i64 m, .string s] 35)
    have B2 := B1.trans (b2.mono B1.size)
    have o2 := o1.alloc (.cells #[.int .i64 kd, .int .i64 m, .string s] 35)
    have RV := Lib.hid (rdV_lit w1 kd m s)
    clear oW o1
    go_wp2_with fail
    generalize hgg : w1.heap.size = gg at *
    generalize w1.alloc (.cells #[.int .i64 kd, .int .i64 m, .string s] 35) = W2 at *
    clear d0 d1 d2 hcv b2
    have B5 : Below w.heap.size w W2.drew := B2.drew
    have HS : ∀ w', Below W2.drew.heap.size W2.drew w' → (Below W2.drew.heap.size W2.drew w' ∧ Below w.heap.size w w' ∧ w'.cell? ⟨w.heap.size, 0, none⟩ = some (.int .i64 kd) ∧ w'.cell? ⟨w.heap.size, 1, none⟩ = some (.int .i64 m) ∧ w'.cell? ⟨w.heap.size, 2, none⟩ = some (.string s)) := fun w' hb =>
      have ho := (show Own W2.drew _ _ _ from o2).below hb o2.lt
      ⟨hb, B5.trans (hb.mono B5.size), ho.cell 0, ho.cell 1, ho.cell 2⟩
    have HS := Lib.hid HS
    have RV2 := Lib.hid (fun w' (hb : Below W2.drew.heap.size W2.drew w') => (show RdV W2.drew 0 W2.drew.heap.size _ _ from RV.out).step hb (Nat.le_refl _))
    clear o2 bW hb1 B1 B2 RV
    go_region_held3 (fun w' => Below W2.drew.heap.size W2.drew w' ∧ Below w.heap.size w w' ∧ w'.cell? ⟨w.heap.size, 0, none⟩ = some (.int .i64 kd) ∧ w'.cell? ⟨w.heap.size, 1, none⟩ = some (.int .i64 m) ∧ w'.cell? ⟨w.heap.size, 2, none⟩ = some (.string s))
      (first | (exact HS.out _ (Below.refl _ _)) | (go_split_ands; exact HS.out _ (Below.trans (by assumption) (Below.mono hb (Below.size (by assumption))))) | (go_split_ands; exact HS.out _ (Below.trans (by assumption) (Below.mono (bel_mark _ _) (Below.size (by assumption))))))
      ((first
        | (go_at_call 14; go_split_ands; refine (H1.out _ (by assumption)).mono ?_; rintro e w3 ⟨v1, rfl, ho1, hb⟩; have hb_1 := hb; have hR1 := RdB.of_own ho1 HL1.out.1; have hq1 := hR1; obtain ⟨A1, c1, hvv1, _⟩ := hq1; subst hvv1; have R1 := Lib.hid hR1; clear hR1 ho1)
        | (go_at_call 19; go_split_ands; refine (H2.out _ (by assumption)).mono ?_; rintro e w4 ⟨v2, rfl, ho2, hb⟩; have hb_2 := hb; have hR2 := RdB.of_own ho2 HL2.out.1; have hq2 := hR2; obtain ⟨A2, c2, hvv2, _⟩ := hq2; subst hvv2; have R2 := Lib.hid hR2; clear hR2 ho2)
        | (go_at_call 24; go_split_ands; refine (H3.out _ (by assumption)).mono ?_; rintro e w5 ⟨v3, rfl, ho3, hb⟩; have hb_3 := hb; have hR3 := RdB.of_own ho3 HL3.out.1; have hq3 := hR3; obtain ⟨A3, c3, hvv3, _⟩ := hq3; subst hvv3; have R3 := Lib.hid hR3; clear hR3 ho3)
        | (go_at_call 30; go_split_ands; refine (H4.out _ _ _ (by assumption) (RV2.out _ (by assumption))).mono ?_; rintro e w6 ⟨v4, rfl, ho4, hb⟩; have hb_4 := hb; have hR4 := RdB.of_own ho4 HL4.out.1; have hq4 := hR4; obtain ⟨A4, c4, hvv4, _⟩ := hq4; subst hvv4; have R4 := Lib.hid hR4; clear hR4 ho4)
        | (go_at_call 34; go_split_ands; refine (H5.out _ (by assumption)).mono ?_; rintro e w7 ⟨v5, rfl, ho5, hb⟩; have hb_5 := hb; have hR5 := RdB.of_own ho5 HL5.out.1; have hq5 := hR5; obtain ⟨A5, c5, hvv5, _⟩ := hq5; subst hvv5; have R5 := Lib.hid hR5; clear hR5 ho5)))
    go_split_ands
    have Q1 := ((((R1.out.step hb_2 (Nat.le_refl _)).step hb_3 (Nat.le_refl _)).step hb_4 (Nat.le_refl _)).step hb_5 (Nat.le_refl _))
    rw [List.length_append] at Q1
    have Q2 := (((R2.out.step hb_3 (Nat.le_refl _)).step hb_4 (Nat.le_refl _)).step hb_5 (Nat.le_refl _))
    rw [List.length_append] at Q2
    have Q3 := ((R3.out.step hb_4 (Nat.le_refl _)).step hb_5 (Nat.le_refl _))
    rw [List.length_append] at Q3
    have Q4 := (R4.out.step hb_5 (Nat.le_refl _))
    rw [List.length_append] at Q4
    have Q5 := R5.out
    rw [List.length_append] at Q5
    have OX := Own.new w7 22 #[.slice A1 (P.length + X1.length) c1, .slice A2 (P.length + X2.length) c2, .slice A3 (P.length + X3.length) c3, .slice A4 (P.length + X4.length) c4, .slice A5 (P.length + X5.length) c5]
    have bX := bel_mark w7 (.cells #[.slice A1 (P.length + X1.length) c1, .slice A2 (P.length + X2.length) c2, .slice A3 (P.length + X3.length) c3, .slice A4 (P.length + X4.length) c4, .slice A5 (P.length + X5.length) c5] 22)
    have BX : Below w.heap.size w (w7.alloc (.cells #[.slice A1 (P.length + X1.length) c1, .slice A2 (P.length + X2.length) c2, .slice A3 (P.length + X3.length) c3, .slice A4 (P.length + X4.length) c4, .slice A5 (P.length + X5.length) c5] 22)) := by assumption
    have Y1 := Q1.step bX (Nat.le_refl _)
    have hN1 : (k : Int) < ((P.length + X1.length : Nat) : Int) := by have h := HL1.out.2; have h2 := HKT.out; omega
    have Y2 := Q2.step bX (Nat.le_refl _)
    have hN2 : (k : Int) < ((P.length + X2.length : Nat) : Int) := by have h := HL2.out.2; have h2 := HKT.out; omega
    have Y3 := Q3.step bX (Nat.le_refl _)
    have hN3 : (k : Int) < ((P.length + X3.length : Nat) : Int) := by have h := HL3.out.2; have h2 := HKT.out; omega
    have Y4 := Q4.step bX (Nat.le_refl _)
    have hN4 : (k : Int) < ((P.length + X4.length : Nat) : Int) := by have h := HL4.out.2; have h2 := HKT.out; omega
    have Y5 := Q5.step bX (Nat.le_refl _)
    have hN5 : (k : Int) < ((P.length + X5.length : Nat) : Int) := by have h := HL5.out.2; have h2 := HKT.out; omega
    clear bX Q1 R1 hb_1 Q2 R2 hb_2 Q3 R3 hb_3 Q4 R4 hb_4 Q5 R5 hb_5
    generalize w7.alloc (.cells #[.slice A1 (P.length + X1.length) c1, .slice A2 (P.length + X2.length) c2, .slice A3 (P.length + X3.length) c3, .slice A4 (P.length + X4.length) c4, .slice A5 (P.length + X5.length) c5] 22) = X at *
    have HG1 := Lib.hid (fun W (h : Below X.heap.size X W) => begins_any _ _ P X1 W _ L (Y1.step h (Nat.le_refl _)) (HBT.out W (BX.trans (h.mono BX.size))))
    have HG2 := Lib.hid (fun W (h : Below X.heap.size X W) => begins_any _ _ P X2 W _ L (Y2.step h (Nat.le_refl _)) (HBT.out W (BX.trans (h.mono BX.size))))
    have HG3 := Lib.hid (fun W (h : Below X.heap.size X W) => begins_any _ _ P X3 W _ L (Y3.step h (Nat.le_refl _)) (HBT.out W (BX.trans (h.mono BX.size))))
    have HG4 := Lib.hid (fun W (h : Below X.heap.size X W) => begins_any _ _ P X4 W _ L (Y4.step h (Nat.le_refl _)) (HBT.out W (BX.trans (h.mono BX.size))))
    have HG5 := Lib.hid (fun W (h : Below X.heap.size X W) => begins_any _ _ P X5 W _ L (Y5.step h (Nat.le_refl _)) (HBT.out W (BX.trans (h.mono BX.size))))
    clear Y1 HL1 H1 Y2 HL2 H2 Y3 HL3 H3 Y4 HL4 H4 Y5 HL5 H5 HS RV2 HBT
    generalize P.length + X1.length = N1 at *
    generalize P.length + X2.length = N2 at *
    generalize P.length + X3.length = N3 at *
    generalize P.length + X4.length = N4 at *
    generalize P.length + X5.length = N5 at *
    have HOX := Lib.hid OX
    have HBX := Lib.hid BX
    have hglt := OX.lt
    generalize hg7 : w7.heap.size = g7 at *
    clear OX BX
    go_wp2_with fail
    go_loopw [56] (fun i wr => ∃ j : Nat, j ≤ 5 ∧ i = .int .i64 j ∧ Below X.heap.size X wr) (fun i _ => 5 - (intOf i).toNat)
    case atStart => exact ⟨0, by omega, rfl, Below.refl _ _⟩
    case round =>
      obtain ⟨j, hj, rfl, hbr⟩ := hrel
      have hj5 : j = 0 ∨ j = 1 ∨ j = 2 ∨ j = 3 ∨ j = 4 ∨ j = 5 := by omega
      clear hj
      have hgr : g7 < wr.heap.size := Nat.lt_of_lt_of_le hglt hbr.size
      rcases hj5 with rfl | rfl | rfl | rfl | rfl | rfl
      · have d := (hbr.cell (p := ⟨g7, 0, none⟩) hglt).trans (HOX.out.cell 0)
        (try simp only [List.getElem?_toArray, List.getElem?_cons_zero] at d)
        have f := fun p : After wr => after_cell hgr d p
        have hg := fun p : After wr => HG1.out p.w (hbr.trans (p.h.mono hbr.size))
        have hgt : ¬ (N1 : Int) ≤ k := by omega
        have HBR := Lib.hid hbr
        clear d hbr
        go_wp2_with fail
        (refine wp_region_after (by kernel_rfl) (by kernel_rfl) ?_; (repeat (go_big_quiet_step ((go_at_call 41; exact calls_after (hg _))))); refine wpQuiet_nil ?_; intro wq hw0; obtain ⟨⟨wq0, hbq⟩, hw1⟩ := hw0; subst hw1; (try dsimp only))
        clear f hg
        go_wp2
        go_roundw
        case rel => exact ⟨1, by omega, by first | rfl | go_num, HBR.out.trans (hbq.mono HBR.out.size)⟩
        case measure => simp [intOf]
      · have d := (hbr.cell (p := ⟨g7, 1, none⟩) hglt).trans (HOX.out.cell 1)
        (try simp only [List.getElem?_toArray, List.getElem?_cons_zero, List.getElem?_cons_succ] at d)
        have f := fun p : After wr => after_cell hgr d p
        have hg := fun p : After wr => HG2.out p.w (hbr.trans (p.h.mono hbr.size))
        have hgt : ¬ (N2 : Int) ≤ k := by omega
        have HBR := Lib.hid hbr
        clear d hbr
        go_wp2_with fail
        (refine wp_region_after (by kernel_rfl) (by kernel_rfl) ?_; (repeat (go_big_quiet_step ((go_at_call 41; exact calls_after (hg _))))); refine wpQuiet_nil ?_; intro wq hw0; obtain ⟨⟨wq0, hbq⟩, hw1⟩ := hw0; subst hw1; (try dsimp only))
        clear f hg
        go_wp2
        go_roundw
        case rel => exact ⟨2, by omega, by first | rfl | go_num, HBR.out.trans (hbq.mono HBR.out.size)⟩
        case measure => simp [intOf]
      · have d := (hbr.cell (p := ⟨g7, 2, none⟩) hglt).trans (HOX.out.cell 2)
        (try simp only [List.getElem?_toArray, List.getElem?_cons_zero, List.getElem?_cons_succ] at d)
        have f := fun p : After wr => after_cell hgr d p
        have hg := fun p : After wr => HG3.out p.w (hbr.trans (p.h.mono hbr.size))
        have hgt : ¬ (N3 : Int) ≤ k := by omega
        have HBR := Lib.hid hbr
        clear d hbr
        go_wp2_with fail
        (refine wp_region_after (by kernel_rfl) (by kernel_rfl) ?_; (repeat (go_big_quiet_step ((go_at_call 41; exact calls_after (hg _))))); refine wpQuiet_nil ?_; intro wq hw0; obtain ⟨⟨wq0, hbq⟩, hw1⟩ := hw0; subst hw1; (try dsimp only))
        clear f hg
        go_wp2
        go_roundw
        case rel => exact ⟨3, by omega, by first | rfl | go_num, HBR.out.trans (hbq.mono HBR.out.size)⟩
        case measure => simp [intOf]
      · have d := (hbr.cell (p := ⟨g7, 3, none⟩) hglt).trans (HOX.out.cell 3)
        (try simp only [List.getElem?_toArray, List.getElem?_cons_zero, List.getElem?_cons_succ] at d)
        have f := fun p : After wr => after_cell hgr d p
        have hg := fun p : After wr => HG4.out p.w (hbr.trans (p.h.mono hbr.size))
        have hgt : ¬ (N4 : Int) ≤ k := by omega
        have HBR := Lib.hid hbr
        clear d hbr
        go_wp2_with fail
        (refine wp_region_after (by kernel_rfl) (by kernel_rfl) ?_; (repeat (go_big_quiet_step ((go_at_call 41; exact calls_after (hg _))))); refine wpQuiet_nil ?_; intro wq hw0; obtain ⟨⟨wq0, hbq⟩, hw1⟩ := hw0; subst hw1; (try dsimp only))
        clear f hg
        go_wp2
        go_roundw
        case rel => exact ⟨4, by omega, by first | rfl | go_num, HBR.out.trans (hbq.mono HBR.out.size)⟩
        case measure => simp [intOf]
      · have d := (hbr.cell (p := ⟨g7, 4, none⟩) hglt).trans (HOX.out.cell 4)
        (try simp only [List.getElem?_toArray, List.getElem?_cons_zero, List.getElem?_cons_succ] at d)
        have f := fun p : After wr => after_cell hgr d p
        have hg := fun p : After wr => HG5.out p.w (hbr.trans (p.h.mono hbr.size))
        have hgt : ¬ (N5 : Int) ≤ k := by omega
        have HBR := Lib.hid hbr
        clear d hbr
        go_wp2_with fail
        (refine wp_region_after (by kernel_rfl) (by kernel_rfl) ?_; (repeat (go_big_quiet_step ((go_at_call 41; exact calls_after (hg _))))); refine wpQuiet_nil ?_; intro wq hw0; obtain ⟨⟨wq0, hbq⟩, hw1⟩ := hw0; subst hw1; (try dsimp only))
        clear f hg
        go_wp2
        go_roundw
        case rel => exact ⟨5, by omega, by first | rfl | go_num, HBR.out.trans (hbq.mono HBR.out.size)⟩
        case measure => simp [intOf]
      · have hcv := HS0.out wr (HBX.out.trans (hbr.mono HBX.out.size))
        have hwk := works_any wr
        go_wp2_with fail
        with_reducible refine hwk.mono ?_
        rintro e w9 ⟨rfl, hb9⟩
        go_wp2_with fail
        go_ret
        exact ⟨rfl, (HBX.out.trans (hbr.mono HBX.out.size)).trans (hb9.mono (Nat.le_trans HBX.out.size hbr.size))⟩
end Go.Proofs.Ytomiegfblhhhpaa
