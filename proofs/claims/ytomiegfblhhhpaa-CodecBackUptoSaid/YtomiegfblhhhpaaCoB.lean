/-
  The walk of the statement CodecBack. Conditions: lengths, numbers of 64 bits.
-/
import Derived.Test.YtomiegfblhhhpaaCoN
import Derived.Test.YtomiegfblhhhpaaCoQa
import Derived.Test.YtomiegfblhhhpaaCoPq
import Derived.Test.YtomiegfblhhhpaaCoW
import Derived.Deep.RegionHeld3
import Derived.WalkKit
import Derived.WalkSpells
import Derived.WalkLawsBesides
import Derived.Deep.QuietTactic
import Derived.BigQuiet
import Derived.Handy
import Derived.Lib.Hide
namespace Go.Proofs.Ytomiegfblhhhpaa
open Go.RowKit

theorem takeD {P : Program} {md : Region.Mode} {ops : Array Oper} {Q : Exit → Act → World → Prop} {S : World → Prop} {i d : Nat} {oi : Oper} {v : Value} {fuel : Nat} {listed : Array Bool} {a : Act} {w : World} (hi : ops[i]? = some oi) (hd : oi.dst = some d)
    (hs : Region.noSelect ops = true) (hf : Region.free md ops listed i = true) (hr : (Region.ready md ops listed).contains i = true)
    (hQ : ∀ c a w, Q (.panic c) (a.put oi.dst v) w → Q (.panic c) a w) (hy : YieldsIf P ops S oi v a) (hS : S w)
    (h : wpAnyH P md ops Q S fuel (listed.setIfInBounds i true) (a.put (some d) v) w) : wpAnyH P md ops Q S (fuel + 1) listed a w :=
  wpAnyH_take hi hs hf hr hQ hy hS (by rw [hd]; exact h)
/-- The condition on the worlds may be made stronger on the way. -/
theorem wpAnyH_mono {P : Program} {md : Region.Mode} {ops : Array Oper} {Q : Exit → Act → World → Prop} {S S' : World → Prop} (h : ∀ w, S' w → S w) : ∀ (fuel : Nat) (listed : Array Bool) (a : Act) (w : World), wpAnyH P md ops Q S' fuel listed a w → wpAnyH P md ops Q S fuel listed a w
  | 0, _, _, _, hh => hh
  | fuel + 1, _, _, _, hh => ⟨hh.1, fun i hi => wpOp_mono (fun a' w' k => ⟨h _ k.1, wpAnyH_mono h fuel _ a' w' k.2⟩) (hh.2 i hi)⟩
theorem okP_size {p : Vl} (h : okP p = true) : p.2.2.size ≤ 200 := by
  rcases okP_cases h with rfl | ⟨n, rfl, _, _⟩ | ⟨s, rfl, h1, _⟩ | rfl | rfl
  · decide
  · exact Nat.zero_le _
  · exact h1
  · decide
  · decide
theorem szL_small : ∀ qs : List Vl, okL qs = true → szL qs ≤ 211 * qs.length := by
  intro qs
  induction qs with
  | nil => intro _; simp [szL]
  | cons p qs ih =>
    intro h
    rw [okL_cons, Bool.and_eq_true] at h
    have h1 := okP_size h.1
    have h2 := ih h.2
    unfold szL at h2 ⊢
    simp only [List.map_cons, List.sum_cons, List.length_cons]
    omega
theorem perB_len {a b : Int} (ha : I64 a) (hb : I64 b) : (perB a b).length ≤ 20 := by
  have h1 := vint_len10 (zig_lt ha)
  have h2 := vint_len10 (zig_lt hb)
  unfold perB
  rw [List.length_append]; omega
/-- What is read out of all that was put. -/
theorem back_all (l : List UInt8) (ps : List Vl) (a b : Int) (h : okL ps = true) (h12 : ps.length ≤ 12) (ha : I64 a) (hb : I64 b) :
    rowF ((l ++ encR ps) ++ perB a b) l.length = (0, ps, (l ++ encR ps).length) ∧ intF ((l ++ encR ps) ++ perB a b) (l ++ encR ps).length = (0, a, ((l ++ encR ps) ++ vint (zig a)).length) ∧ intF ((l ++ encR ps) ++ perB a b) ((l ++ encR ps) ++ vint (zig a)).length = (0, b, ((l ++ encR ps) ++ perB a b).length) := by
  refine ⟨?_, ?_, ?_⟩
  · have h1 := rowF_put l (perB a b) ps h h12
    rw [← List.append_assoc] at h1
    rw [h1, List.length_append]
  · have h1 := intF_put (l ++ encR ps) (vint (zig b)) a ha
    unfold perB
    rw [h1, List.length_append]
    simp only [List.length_append]
  · have h1 := intF_put ((l ++ encR ps) ++ vint (zig a)) [] b hb
    rw [List.append_nil, List.append_assoc] at h1
    unfold perB
    rw [h1]
    simp only [List.length_append]
    congr 2
    omega
set_option maxRecDepth 100000 in
set_option maxHeartbeats 25600000 in
theorem law_back (v u : Value) (l : List UInt8) (ps : List Vl) (a b i : Int) (w : World) (L L2 : Nat) (hv : RdB w L w.heap.size v l) (hu : RdV w L2 w.heap.size u ps) (ha : I64 a) (hb : I64 b) (hl : l.length + szL ps ≤ 140737488350000) (hpl : ps.length ≤ 140737488350000) :
    Calls Try.prog 9 #[v, u, .agg #[.int .i64 a, .int .i64 b], .int .i64 i] w fun e w' => e = .returned (.bool true) ∧ Below w.heap.size w w' := by
  have bW := bel_mark w (.cells #[.int .i64 a, .int .i64 b] 49)
  have oW := Own.new w 49 #[.int .i64 a, .int .i64 b]
  have hvd := validRow_any u ps _ L2 (hu.step bW (Nat.le_refl _))
  cases hok : (okL ps && decide (ps.length ≤ 12))
  · rw [hok] at hvd
    clear hok oW
    obtain ⟨A, c, rfl, _⟩ := hv
    obtain ⟨A2, c2, rfl, _⟩ := hu
    go_enter Try.func9, Try.ntmps9
    go_wp2_with fail
    generalize w.alloc (.cells #[.int .i64 a, .int .i64 b] 49) = W at *
    with_reducible refine hvd.mono ?_
    rintro e w1 ⟨rfl, hb1⟩
    have hwk := works_any w1
    go_wp2_with fail
    with_reducible refine hwk.mono ?_
    rintro e w2 ⟨rfl, hb2⟩
    go_wp2_with fail
    go_ret
    exact ⟨rfl, (bW.trans (hb1.mono bW.size)).trans (hb2.mono (Nat.le_trans bW.size hb1.size))⟩
  · rw [hok] at hvd
    simp only [Bool.and_eq_true, decide_eq_true_eq] at hok
    obtain ⟨hok, h12⟩ := hok
    obtain ⟨ba1, ba2, ba3⟩ := back_all l ps a b hok h12 ha hb
    have hel := encR_len ps hok (by omega)
    have hpb := perB_len ha hb
    have hA1 : (l ++ encR ps).length ≤ 140737488355200 := by rw [List.length_append]; omega
    have hA2 : ((l ++ encR ps) ++ perB a b).length ≤ 140737488355300 := by rw [List.length_append]; omega
    have h1 := fun W (h : Below w.heap.size w W) => pPutRow_any v u l ps hok W L L2 (hv.step h (Nat.le_refl _)) (hu.step h (Nat.le_refl _)) (by omega) (by omega)
    have h2 := fun v1 W L (h : RdB W L W.heap.size v1 (l ++ encR ps)) => PutPeriod_any v1 (l ++ encR ps) a b ha hb W L h (by omega)
    have h3 := fun v1 W L (h : RdB W L W.heap.size v1 ((l ++ encR ps) ++ perB a b)) => pRow_any v1 ((l ++ encR ps) ++ perB a b) l.length W L h
    rw [ba1] at h3
    have h4 := fun v1 W L (h : RdB W L W.heap.size v1 ((l ++ encR ps) ++ perB a b)) => pInt_any v1 ((l ++ encR ps) ++ perB a b) (l ++ encR ps).length W L h
    rw [ba2] at h4
    have h5 := fun v1 W L (h : RdB W L W.heap.size v1 ((l ++ encR ps) ++ perB a b)) => pInt_any v1 ((l ++ encR ps) ++ perB a b) ((l ++ encR ps) ++ vint (zig a)).length W L h
    rw [ba3] at h5
    have hro := fun W (h : Below w.heap.size w W) => pRow_any v l i W L (hv.step h (Nat.le_refl _))
    have hpe := fun W (h : Below w.heap.size w W) => pPeriod_any v l i W L (hv.step h (Nat.le_refl _))
    have HU := Lib.hid (fun W (h : Below w.heap.size w W) => hu.step h (Nat.le_refl _))
    have hv0 := hv
    obtain ⟨A, c, rfl, hl63, hlc, _⟩ := hv0
    have hcut := fun (j cc : Nat) (hj : j ≤ l.length) (hc : j ≤ cc) W (h : Below w.heap.size w W) => rdB_take (hv.step h (Nat.le_refl _)) j cc hj hc
    have hbk2 : (rowF l i).1 = 0 → ∃ i2 : Nat, i = (i2 : Int) ∧ i2 ≤ l.length ∧ (rowF l i).2.2 ≤ l.length ∧ (∀ W u' L' (h : Below w.heap.size w W) (hu' : RdV W L' W.heap.size u' (rowF l i).2.1), Calls Try.prog 30 #[.slice A i2 i2, u'] W (RetB W.heap.size W (l.take i2 ++ encR (rowF l i).2.1))) ∧ (l.take i2 ++ encR (rowF l i).2.1).length ≤ 9223372036854775807 ∧ ByteArray.mk (l.take i2 ++ encR (rowF l i).2.1).toArray = ByteArray.mk (l.take (rowF l i).2.2).toArray ∧ (∀ W (h : Below w.heap.size w W), (convert 22 9 (.slice A (rowF l i).2.2 c)).run Try.prog W = .ok (.string (ByteArray.mk (l.take (rowF l i).2.2).toArray)) W) := fun he => by
      obtain ⟨c1, c2, c3, c4, c5, c6, c7⟩ := rowF_back he
      obtain ⟨i2, rfl⟩ := Int.eq_ofNat_of_zero_le c1
      rw [Int.toNat_natCast] at c5 c7
      have hs := szL_small _ c3
      have hlt : (l.take i2).length = i2 := by rw [List.length_take]; omega
      have hen := encR_len _ c3 (by omega)
      exact ⟨i2, rfl, by omega, c6, fun W u' L' h hu' => pPutRow_any _ u' (l.take i2) _ c3 W L L' (hcut i2 i2 (by omega) (Nat.le_refl _) W h) hu' (by omega) (by omega), by rw [List.length_append]; omega, by rw [c7], fun W h => conv_rdB (hcut _ c c6 (by omega) W h)⟩
    have hbk3 : (perF l i).1 = 0 → ∃ i3 : Nat, i = (i3 : Int) ∧ i3 ≤ l.length ∧ (perF l i).2.2.2 ≤ l.length ∧ True ∧ (∀ W (h : Below w.heap.size w W), Calls Try.prog 34 #[.slice A i3 i3, .agg #[.int .i64 (perF l i).2.1, .int .i64 (perF l i).2.2.1]] W (RetB W.heap.size W (l.take i3 ++ perB (perF l i).2.1 (perF l i).2.2.1))) ∧ (l.take i3 ++ perB (perF l i).2.1 (perF l i).2.2.1).length ≤ 9223372036854775807 ∧ ByteArray.mk (l.take i3 ++ perB (perF l i).2.1 (perF l i).2.2.1).toArray = ByteArray.mk (l.take (perF l i).2.2.2).toArray ∧ (∀ W (h : Below w.heap.size w W), (convert 22 9 (.slice A (perF l i).2.2.2 c)).run Try.prog W = .ok (.string (ByteArray.mk (l.take (perF l i).2.2.2).toArray)) W) := fun he => by
      obtain ⟨c1, c2, c3, c4, c5, c6, c7⟩ := perF_back he
      obtain ⟨i3, rfl⟩ := Int.eq_ofNat_of_zero_le c1
      rw [Int.toNat_natCast] at c3 c7
      have hlt : (l.take i3).length = i3 := by rw [List.length_take]; omega
      have hen := perB_len c5 c6
      exact ⟨i3, rfl, by omega, c4, trivial, fun W h => PutPeriod_any _ (l.take i3) _ _ c5 c6 W L (hcut i3 i3 (by omega) (Nat.le_refl _) W h) (by omega), by rw [List.length_append]; omega, by rw [c7], fun W h => conv_rdB (hcut _ c c4 (by omega) W h)⟩
    generalize rowF l i = X at *
    generalize perF l i = Y at *
    obtain ⟨e2, qs, k2⟩ := X
    obtain ⟨e3, f2, t2, k3⟩ := Y
    unfold RetW at h3 hro
    unfold perR at hpe
    dsimp only at h3 h4 h5 hro hpe hbk2 hbk3
    have H1 := Lib.hid h1
    have H2 := Lib.hid h2
    have H3 := Lib.hid h3
    have H4 := Lib.hid h4
    have H5 := Lib.hid h5
    have HRO := Lib.hid hro
    have HPE := Lib.hid hpe
    have HBK2 := Lib.hid hbk2
    have HBK3 := Lib.hid hbk3
    have HA1 := Lib.hid hA1
    have HA2 := Lib.hid hA2
    clear h1 h2 h3 h4 h5 hro hpe hbk2 hbk3 ba1 ba2 ba3 hcut hok h12 hpb hel hl hpl ha hb hA1 hA2 hv
    generalize hS2 : ByteArray.mk (l.take k2).toArray = S2 at *
    generalize hS3 : ByteArray.mk (l.take k3).toArray = S3 at *
    clear hS2 hS3
    generalize ((l ++ encR ps) ++ vint (zig a)).length = K2 at *
    generalize (l ++ encR ps) ++ perB a b = R at *
    generalize l ++ encR ps = M at *
    generalize hK1 : M.length = K1 at *
    obtain ⟨A2, c2, rfl, _⟩ := hu
    go_enter Try.func9, Try.ntmps9
    go_wp2_with fail
    generalize w.alloc (.cells #[.int .i64 a, .int .i64 b] 49) = W at *
    with_reducible refine hvd.mono ?_
    rintro e w1 ⟨rfl, hb1⟩
    have B1 := bW.trans (hb1.mono bW.size)
    have o1 := oW.below hb1 oW.lt
    clear hvd oW bW
    go_wp2_with fail
    have B1d : Below w.heap.size w w1.drew := B1.drew
    have HS : ∀ w', Below w1.drew.heap.size w1.drew w' → (Below w1.drew.heap.size w1.drew w' ∧ Below w.heap.size w w' ∧ w'.cell? ⟨w.heap.size, 0, none⟩ = some (.int .i64 a) ∧ w'.cell? ⟨w.heap.size, 1, none⟩ = some (.int .i64 b)) := fun w' hb =>
      have ho := (show Own w1.drew _ _ _ from o1).below hb o1.lt
      ⟨hb, B1d.trans (hb.mono B1d.size), ho.cell 0, ho.cell 1⟩
    have HS := Lib.hid HS
    go_region_held3 (fun w' => Below w1.drew.heap.size w1.drew w' ∧ Below w.heap.size w w' ∧ w'.cell? ⟨w.heap.size, 0, none⟩ = some (.int .i64 a) ∧ w'.cell? ⟨w.heap.size, 1, none⟩ = some (.int .i64 b))
      (first | (exact HS.out _ (Below.refl _ _)) | (go_split_ands; exact HS.out _ (Below.trans (by assumption) (Below.mono hb (Below.size (by assumption))))))
      ((first
        | (go_at_call 30; go_split_ands; refine (H1.out _ (by assumption)).mono ?_; rintro e w3 ⟨v3, rfl, ho3, hb⟩; have R3 := Lib.hid (RdB.of_own ho3 (by have := HA1.out; omega)); clear ho3)
        | (go_at_call 34; go_split_ands; refine (H2.out v3 _ _ R3.out).mono ?_; rintro e w4 ⟨v4, rfl, ho4, hb⟩; have R4 := RdB.of_own ho4 (by have := HA2.out; omega); clear ho4)))
    go_split_ands
    have B4 : Below w.heap.size w w4 := by assumption
    have d0 : w4.cell? ⟨w.heap.size, 0, none⟩ = some (.int .i64 a) := by assumption
    have d1 : w4.cell? ⟨w.heap.size, 1, none⟩ = some (.int .i64 b) := by assumption
    have hwl : w.heap.size < w4.heap.size := Nat.lt_of_lt_of_le o1.lt (Nat.le_trans (show w1.heap.size ≤ w1.drew.heap.size from Nat.le_refl _) (Below.size (show Below w1.drew.heap.size w1.drew w4 by assumption)))
    have hq4 := R4
    obtain ⟨A4, c4, hv4, _, hc4, _⟩ := hq4
    subst hv4
    have R4 := Lib.hid R4
    have h6 := H3.out _ w4 _ R4.out
    clear HS H1 H2 B1 B1d o1 R3
    go_wp2_with fail
    with_reducible refine h6.mono ?_
    rintro e w5 ⟨u5, rfl, r5, hb5⟩
    have B5 := B4.trans (hb5.mono B4.size)
    have R5 := Lib.hid (R4.out.step hb5 (Nat.le_refl _))
    have h7 := rows_any u5 _ ps w5 _ _ r5 (HU.out w5 B5)
    have d0 := (hb5.cell (p := ⟨w.heap.size, 0, none⟩) hwl).trans d0
    have d1 := (hb5.cell (p := ⟨w.heap.size, 1, none⟩) hwl).trans d1
    have hwl := Nat.lt_of_lt_of_le hwl hb5.size
    clear h6 r5
    go_wp2_with fail
    with_reducible refine h7.mono ?_
    rintro e w6 ⟨rfl, hb6⟩
    have B6 := B5.trans (hb6.mono B5.size)
    have R6 := Lib.hid (R5.out.step hb6 (Nat.le_refl _))
    have h8 := H4.out _ w6 _ R6.out
    have d0 := (hb6.cell (p := ⟨w.heap.size, 0, none⟩) hwl).trans d0
    have d1 := (hb6.cell (p := ⟨w.heap.size, 1, none⟩) hwl).trans d1
    have hwl := Nat.lt_of_lt_of_le hwl hb6.size
    clear h7
    go_wp2_with fail
    with_reducible refine h8.mono ?_
    rintro e w7 ⟨rfl, hb7⟩
    have B7 := B6.trans (hb7.mono B6.size)
    have R7 := Lib.hid (R6.out.step hb7 (Nat.le_refl _))
    have h9 := H5.out _ w7 _ R7.out
    have d0 := (hb7.cell (p := ⟨w.heap.size, 0, none⟩) hwl).trans d0
    have d1 := (hb7.cell (p := ⟨w.heap.size, 1, none⟩) hwl).trans d1
    have hwl := Nat.lt_of_lt_of_le hwl hb7.size
    clear h8
    go_wp2_with fail
    with_reducible refine h9.mono ?_
    rintro e w8 ⟨rfl, hb8⟩
    have B8 := B7.trans (hb8.mono B7.size)
    have d0 := (hb8.cell (p := ⟨w.heap.size, 0, none⟩) hwl).trans d0
    have d1 := (hb8.cell (p := ⟨w.heap.size, 1, none⟩) hwl).trans d1
    clear h9 H3 H4 H5 R4 R5 R6 R7 HU HA1 HA2
    have h10 := HRO.out w8 B8
    go_wp2_with fail
    with_reducible refine h10.mono ?_
    rintro e w10 ⟨u10, rfl, r10, hb10⟩
    have B10 := B8.trans (hb10.mono B8.size)
    clear h10
    by_cases he2 : e2 = 0
    · subst he2
      obtain ⟨i2, hi2, hi2l, hk2, hp2⟩ := HBK2.out rfl
      have hmi2 : (i2 : Int) ≤ c := by omega
      have hmk2 : (k2 : Int) ≤ c := by omega
      have HP2 := Lib.hid hp2.1
      have HL2 := Lib.hid hp2.2.1
      have HM2 := Lib.hid hp2.2.2.1
      have HC2 := Lib.hid hp2.2.2.2
      clear hp2 HBK2
      subst hi2
      have B10d : Below w.heap.size w w10.drew := B10.drew
      have HR10 := Lib.hid (fun w' (hb : Below w10.drew.heap.size w10.drew w') => (show RdV w10.drew 0 w10.drew.heap.size u10 qs from r10).step hb (Nat.le_refl _))
      clear r10
      go_wp2_with fail
      have HS10 : ∀ w', Below w10.drew.heap.size w10.drew w' → (Below w10.drew.heap.size w10.drew w' ∧ (convert 22 9 (.slice A k2 c)).run Try.prog w' = .ok (.string S2) w') := fun w' hb =>
        ⟨hb, HC2.out _ (B10d.trans (hb.mono B10d.size))⟩
      have HS10 := Lib.hid HS10
      refine wp_region_held_drew (S := fun w' => Below w10.drew.heap.size w10.drew w' ∧ (convert 22 9 (.slice A k2 c)).run Try.prog w' = .ok (.string S2) w') (by kernel_rfl) (HS10.out _ (Below.refl _ _)) (fun hHeld => ?_)
      (refine takeD (i := 0) (d := 95) (oi := _) (v := ?_) rfl rfl (by kernel_rfl) (by kernel_rfl) (by kernel_rfl) (fun _ _ _ h => h) (Or.inl ⟨by rfl, ?_⟩) (by assumption) ?_; rotate_left; (focus ((intro w hSw; (try dsimp only at hSw); go_simp) <;> (with_reducible rfl))); (try simp only [Act.put, List.setIfInBounds_toArray, List.set_cons_zero, List.set_cons_succ]))
      (refine takeD (i := 1) (d := 96) (oi := _) (v := ?_) rfl rfl (by kernel_rfl) (by kernel_rfl) (by kernel_rfl) (fun _ _ _ h => h) (Or.inl ⟨by rfl, ?_⟩) (by assumption) ?_; rotate_left; (focus ((intro w hSw; (try dsimp only at hSw); go_simp) <;> (with_reducible rfl))); (try simp only [Act.put, List.setIfInBounds_toArray, List.set_cons_zero, List.set_cons_succ]))
      (refine takeD (i := 2) (d := 97) (oi := _) (v := ?_) rfl rfl (by kernel_rfl) (by kernel_rfl) (by kernel_rfl) (fun _ _ _ h => h) (Or.inl ⟨by rfl, ?_⟩) (by assumption) ?_; rotate_left; (focus ((intro w hSw; (try dsimp only at hSw); go_simp) <;> (with_reducible rfl))); (try simp only [Act.put, List.setIfInBounds_toArray, List.set_cons_zero, List.set_cons_succ]))
      (refine takeD (i := 3) (d := 98) (oi := _) (v := ?_) rfl rfl (by kernel_rfl) (by kernel_rfl) (by kernel_rfl) (fun _ _ _ h => h) (Or.inl ⟨by rfl, ?_⟩) (by assumption) ?_; rotate_left; (focus ((intro w hSw; (try dsimp only at hSw); go_simp) <;> (with_reducible rfl))); (try simp only [Act.put, List.setIfInBounds_toArray, List.set_cons_zero, List.set_cons_succ]))
      (refine takeD (i := 4) (d := 99) (oi := _) (v := ?_) rfl rfl (by kernel_rfl) (by kernel_rfl) (by kernel_rfl) (fun _ _ _ h => h) (Or.inl ⟨by rfl, ?_⟩) (by assumption) ?_; rotate_left; (focus ((intro w hSw; (try dsimp only at hSw); go_simp) <;> (with_reducible rfl))); (try simp only [Act.put, List.setIfInBounds_toArray, List.set_cons_zero, List.set_cons_succ]))
      (refine takeD (i := 5) (d := 100) (oi := _) (v := ?_) rfl rfl (by kernel_rfl) (by kernel_rfl) (by kernel_rfl) (fun _ _ _ h => h) (Or.inl ⟨by rfl, ?_⟩) (by assumption) ?_; rotate_left; (focus ((intro w hSw; (try dsimp only at hSw); go_simp) <;> (with_reducible rfl))); (try simp only [Act.put, List.setIfInBounds_toArray, List.set_cons_zero, List.set_cons_succ]))
      (refine takeD (i := 6) (d := 101) (oi := _) (v := ?_) rfl rfl (by kernel_rfl) (by kernel_rfl) (by kernel_rfl) (fun _ _ _ h => h) (Or.inl ⟨by rfl, ?_⟩) (by assumption) ?_; rotate_left; (focus ((intro w hSw; (try dsimp only at hSw); go_simp) <;> (with_reducible rfl))); (try simp only [Act.put, List.setIfInBounds_toArray, List.set_cons_zero, List.set_cons_succ]))
      (refine takeD (i := 7) (d := 102) (oi := _) (v := ?_) rfl rfl (by kernel_rfl) (by kernel_rfl) (by kernel_rfl) (fun _ _ _ h => h) (Or.inl ⟨by rfl, ?_⟩) (by assumption) ?_; rotate_left; (focus ((intro w hSw; (try dsimp only at hSw); go_simp) <;> (with_reducible rfl))); (try simp only [Act.put, List.setIfInBounds_toArray, List.set_cons_zero, List.set_cons_succ]))
      (refine takeD (i := 10) (d := 105) (oi := _) (v := ?_) rfl rfl (by kernel_rfl) (by kernel_rfl) (by kernel_rfl) (fun _ _ _ h => h) (Or.inl ⟨by rfl, ?_⟩) (by assumption) ?_; rotate_left; (focus ((intro w hSw; (try dsimp only at hSw); go_simp) <;> (with_reducible rfl))); (try simp only [Act.put, List.setIfInBounds_toArray, List.set_cons_zero, List.set_cons_succ]))
      (refine takeD (i := 11) (d := 106) (oi := _) (v := ?_) rfl rfl (by kernel_rfl) (by kernel_rfl) (by kernel_rfl) (fun _ _ _ h => h) (Or.inl ⟨by rfl, ?_⟩) (by assumption) ?_; rotate_left; (focus ((intro w hSw; (try dsimp only at hSw); go_simp) <;> (with_reducible rfl))); (try simp only [Act.put, List.setIfInBounds_toArray, List.set_cons_zero, List.set_cons_succ]))
      (refine takeD (i := 12) (d := 107) (oi := _) (v := ?_) rfl rfl (by kernel_rfl) (by kernel_rfl) (by kernel_rfl) (fun _ _ _ h => h) (Or.inl ⟨by rfl, ?_⟩) (by assumption) ?_; rotate_left; (focus ((intro w hSw; (try dsimp only at hSw); go_simp) <;> (with_reducible rfl))); (try simp only [Act.put, List.setIfInBounds_toArray, List.set_cons_zero, List.set_cons_succ]))
      (refine takeD (i := 13) (d := 108) (oi := _) (v := ?_) rfl rfl (by kernel_rfl) (by kernel_rfl) (by kernel_rfl) (fun _ _ _ h => h) (Or.inl ⟨by rfl, ?_⟩) (by assumption) ?_; rotate_left; (focus ((intro w hSw; (try dsimp only at hSw); go_simp) <;> (with_reducible rfl))); (try simp only [Act.put, List.setIfInBounds_toArray, List.set_cons_zero, List.set_cons_succ]))
      refine wpAnyH_ready (rs := [8]) (by kernel_rfl) (by simp) ?_
      refine AllReadyH.cons (o := _) rfl (fun K hK => ?_) AllReadyH.nil
      go_simp
      (go_at_call 30; refine (HP2.out _ u10 _ B10d (HR10.out _ (Below.refl _ _))).mono ?_; rintro e w12 ⟨v12, rfl, ho12, hb⟩; have hcv12 := conv_rdB (RdB.of_own ho12 HL2.out); rw [HM2.out] at hcv12; have hB12 := B10d.trans (hb.mono B10d.size); clear ho12; go_wp2_with fail)
      refine hK.out _ _ (by (try dsimp only); exact HS10.out _ hb) (fun hHeld => ?_)
      clear hK
      (try simp only [Act.put, List.setIfInBounds_toArray, List.set_cons_zero, List.set_cons_succ])
      refine wpAnyH_mono (S' := fun w' => (Below w10.drew.heap.size w10.drew w' ∧ (convert 22 9 (.slice A k2 c)).run Try.prog w' = .ok (.string S2) w') ∧ (convert 22 9 v12).run Try.prog w' = .ok (.string S2) w') (fun _ h => h.1) _ _ _ _ ?_
      have hHeld2 := And.intro hHeld hcv12
      clear hHeld hcv12
      (refine takeD (i := 9) (d := 104) (oi := _) (v := ?_) rfl rfl (by kernel_rfl) (by kernel_rfl) (by kernel_rfl) (fun _ _ _ h => h) (Or.inl ⟨by rfl, ?_⟩) (by assumption) ?_; rotate_left; (focus ((intro w hSw; (try dsimp only at hSw); go_simp) <;> (with_reducible rfl))); (try simp only [Act.put, List.setIfInBounds_toArray, List.set_cons_zero, List.set_cons_succ]))
      (refine takeD (i := 14) (d := 109) (oi := _) (v := ?_) rfl rfl (by kernel_rfl) (by kernel_rfl) (by kernel_rfl) (fun _ _ _ h => h) (Or.inl ⟨by rfl, ?_⟩) (by assumption) ?_; rotate_left; (focus ((intro w hSw; (try dsimp only at hSw); go_simp) <;> (with_reducible rfl))); (try simp only [Act.put, List.setIfInBounds_toArray, List.set_cons_zero, List.set_cons_succ]))
      (refine takeD (i := 15) (d := 110) (oi := _) (v := ?_) rfl rfl (by kernel_rfl) (by kernel_rfl) (by kernel_rfl) (fun _ _ _ h => h) (Or.inl ⟨by rfl, ?_⟩) (by assumption) ?_; rotate_left; (focus ((intro w hSw; (try dsimp only at hSw); go_simp) <;> (with_reducible rfl))); (try simp only [Act.put, List.setIfInBounds_toArray, List.set_cons_zero, List.set_cons_succ]))
      refine wpAnyH_done (by kernel_rfl) ?_ _
      clear hHeld2 HR10 HS10
      all_goals go_wp2_with fail
      all_goals
        have h14 := HPE.out w12 hB12
        go_wp2_with fail
        with_reducible refine h14.mono ?_
        rintro e w14 ⟨rfl, hb14⟩
        have B14 := hB12.trans (hb14.mono hB12.size)
        clear h14
        by_cases he3 : e3 = 0
        · subst he3
          obtain ⟨i3, hi3, hi3l, hk3, hmx3, hp3⟩ := HBK3.out rfl
          have hii : i3 = i2 := by omega
          subst hii
          have hmi3 : (i3 : Int) ≤ c := by omega
          have hmk3 : (k3 : Int) ≤ c := by omega
          have HP3 := Lib.hid hp3.1
          have HL3 := Lib.hid hp3.2.1
          have HM3 := Lib.hid hp3.2.2.1
          have HC3 := Lib.hid hp3.2.2.2
          clear hp3 hmx3 HBK3
          have b15 := bel_mark w14 (.cells #[.int .i64 f2, .int .i64 t2] 49)
          have B15 := B14.trans (b15.mono B14.size)
          have o15 := Own.new w14 49 #[.int .i64 f2, .int .i64 t2]
          clear b15
          go_wp2_with fail
          generalize hg14 : w14.heap.size = g14 at *
          generalize w14.alloc (.cells #[.int .i64 f2, .int .i64 t2] 49) = W15 at *
          have B15d : Below w.heap.size w W15.drew := B15.drew
          have d15a := o15.cell 0; have d15b := o15.cell 1
          (try simp only [List.getElem?_toArray, List.getElem?_cons_zero, List.getElem?_cons_succ] at d15a d15b)
          have HS15 : ∀ w', Below W15.drew.heap.size W15.drew w' → (Below W15.drew.heap.size W15.drew w' ∧ w'.cell? ⟨g14, 0, none⟩ = some (.int .i64 f2) ∧ w'.cell? ⟨g14, 1, none⟩ = some (.int .i64 t2) ∧ (convert 22 9 (.slice A k3 c)).run Try.prog w' = .ok (.string S3) w') := fun w' hb =>
            have ho := (show Own W15.drew _ _ _ from o15).below hb o15.lt
            ⟨hb, ho.cell 0, ho.cell 1, HC3.out _ (B15d.trans (hb.mono B15d.size))⟩
          have HS15 := Lib.hid HS15
          clear o15 B15 B14 hb14 d15a d15b
          refine wp_region_held_drew (S := fun w' => Below W15.drew.heap.size W15.drew w' ∧ w'.cell? ⟨g14, 0, none⟩ = some (.int .i64 f2) ∧ w'.cell? ⟨g14, 1, none⟩ = some (.int .i64 t2) ∧ (convert 22 9 (.slice A k3 c)).run Try.prog w' = .ok (.string S3) w') (by kernel_rfl) (HS15.out _ (Below.refl _ _)) (fun hHeld => ?_)
          (refine takeD (i := 0) (d := 118) (oi := _) (v := ?_) rfl rfl (by kernel_rfl) (by kernel_rfl) (by kernel_rfl) (fun _ _ _ h => h) (Or.inl ⟨by rfl, ?_⟩) (by assumption) ?_; rotate_left; (focus ((intro w hSw; (try dsimp only at hSw); go_simp) <;> (with_reducible rfl))); (try simp only [Act.put, List.setIfInBounds_toArray, List.set_cons_zero, List.set_cons_succ]))
          (refine takeD (i := 1) (d := 119) (oi := _) (v := ?_) rfl rfl (by kernel_rfl) (by kernel_rfl) (by kernel_rfl) (fun _ _ _ h => h) (Or.inl ⟨by rfl, ?_⟩) (by assumption) ?_; rotate_left; (focus ((intro w hSw; (try dsimp only at hSw); go_simp) <;> (with_reducible rfl))); (try simp only [Act.put, List.setIfInBounds_toArray, List.set_cons_zero, List.set_cons_succ]))
          (refine takeD (i := 2) (d := 120) (oi := _) (v := ?_) rfl rfl (by kernel_rfl) (by kernel_rfl) (by kernel_rfl) (fun _ _ _ h => h) (Or.inl ⟨by rfl, ?_⟩) (by assumption) ?_; rotate_left; (focus ((intro w hSw; (try dsimp only at hSw); go_simp) <;> (with_reducible rfl))); (try simp only [Act.put, List.setIfInBounds_toArray, List.set_cons_zero, List.set_cons_succ]))
          (refine takeD (i := 3) (d := 121) (oi := _) (v := ?_) rfl rfl (by kernel_rfl) (by kernel_rfl) (by kernel_rfl) (fun _ _ _ h => h) (Or.inl ⟨by rfl, ?_⟩) (by assumption) ?_; rotate_left; (focus ((intro w hSw; (try dsimp only at hSw); go_simp) <;> (with_reducible rfl))); (try simp only [Act.put, List.setIfInBounds_toArray, List.set_cons_zero, List.set_cons_succ]))
          (refine takeD (i := 4) (d := 122) (oi := _) (v := ?_) rfl rfl (by kernel_rfl) (by kernel_rfl) (by kernel_rfl) (fun _ _ _ h => h) (Or.inl ⟨by rfl, ?_⟩) (by assumption) ?_; rotate_left; (focus ((intro w hSw; (try dsimp only at hSw); go_simp) <;> (with_reducible rfl))); (try simp only [Act.put, List.setIfInBounds_toArray, List.set_cons_zero, List.set_cons_succ]))
          (refine takeD (i := 5) (d := 123) (oi := _) (v := ?_) rfl rfl (by kernel_rfl) (by kernel_rfl) (by kernel_rfl) (fun _ _ _ h => h) (Or.inl ⟨by rfl, ?_⟩) (by assumption) ?_; rotate_left; (focus ((intro w hSw; (try dsimp only at hSw); go_simp) <;> (with_reducible rfl))); (try simp only [Act.put, List.setIfInBounds_toArray, List.set_cons_zero, List.set_cons_succ]))
          (refine takeD (i := 6) (d := 124) (oi := _) (v := ?_) rfl rfl (by kernel_rfl) (by kernel_rfl) (by kernel_rfl) (fun _ _ _ h => h) (Or.inl ⟨by rfl, ?_⟩) (by assumption) ?_; rotate_left; (focus ((intro w hSw; (try dsimp only at hSw); go_simp) <;> (with_reducible rfl))); (try simp only [Act.put, List.setIfInBounds_toArray, List.set_cons_zero, List.set_cons_succ]))
          (refine takeD (i := 7) (d := 125) (oi := _) (v := ?_) rfl rfl (by kernel_rfl) (by kernel_rfl) (by kernel_rfl) (fun _ _ _ h => h) (Or.inl ⟨by rfl, ?_⟩) (by assumption) ?_; rotate_left; (focus ((intro w hSw; (try dsimp only at hSw); go_simp) <;> (with_reducible rfl))); (try simp only [Act.put, List.setIfInBounds_toArray, List.set_cons_zero, List.set_cons_succ]))
          (refine takeD (i := 10) (d := 128) (oi := _) (v := ?_) rfl rfl (by kernel_rfl) (by kernel_rfl) (by kernel_rfl) (fun _ _ _ h => h) (Or.inl ⟨by rfl, ?_⟩) (by assumption) ?_; rotate_left; (focus ((intro w hSw; (try dsimp only at hSw); go_simp) <;> (with_reducible rfl))); (try simp only [Act.put, List.setIfInBounds_toArray, List.set_cons_zero, List.set_cons_succ]))
          (refine takeD (i := 11) (d := 129) (oi := _) (v := ?_) rfl rfl (by kernel_rfl) (by kernel_rfl) (by kernel_rfl) (fun _ _ _ h => h) (Or.inl ⟨by rfl, ?_⟩) (by assumption) ?_; rotate_left; (focus ((intro w hSw; (try dsimp only at hSw); go_simp) <;> (with_reducible rfl))); (try simp only [Act.put, List.setIfInBounds_toArray, List.set_cons_zero, List.set_cons_succ]))
          (refine takeD (i := 12) (d := 130) (oi := _) (v := ?_) rfl rfl (by kernel_rfl) (by kernel_rfl) (by kernel_rfl) (fun _ _ _ h => h) (Or.inl ⟨by rfl, ?_⟩) (by assumption) ?_; rotate_left; (focus ((intro w hSw; (try dsimp only at hSw); go_simp) <;> (with_reducible rfl))); (try simp only [Act.put, List.setIfInBounds_toArray, List.set_cons_zero, List.set_cons_succ]))
          (refine takeD (i := 13) (d := 131) (oi := _) (v := ?_) rfl rfl (by kernel_rfl) (by kernel_rfl) (by kernel_rfl) (fun _ _ _ h => h) (Or.inl ⟨by rfl, ?_⟩) (by assumption) ?_; rotate_left; (focus ((intro w hSw; (try dsimp only at hSw); go_simp) <;> (with_reducible rfl))); (try simp only [Act.put, List.setIfInBounds_toArray, List.set_cons_zero, List.set_cons_succ]))
          refine wpAnyH_ready (rs := [8]) (by kernel_rfl) (by simp) ?_
          refine AllReadyH.cons (o := _) rfl (fun K hK => ?_) AllReadyH.nil
          go_simp
          (go_at_call 34; refine (HP3.out _ B15d).mono ?_; rintro e w16 ⟨v16, rfl, ho16, hb⟩; have hcv16 := conv_rdB (RdB.of_own ho16 HL3.out); rw [HM3.out] at hcv16; have hB16 := B15d.trans (hb.mono B15d.size); clear ho16; go_wp2_with fail)
          refine hK.out _ _ (by (try dsimp only); exact HS15.out _ hb) (fun hHeld => ?_)
          clear hK
          (try simp only [Act.put, List.setIfInBounds_toArray, List.set_cons_zero, List.set_cons_succ])
          refine wpAnyH_mono (S' := fun w' => (Below W15.drew.heap.size W15.drew w' ∧ w'.cell? ⟨g14, 0, none⟩ = some (.int .i64 f2) ∧ w'.cell? ⟨g14, 1, none⟩ = some (.int .i64 t2) ∧ (convert 22 9 (.slice A k3 c)).run Try.prog w' = .ok (.string S3) w') ∧ (convert 22 9 v16).run Try.prog w' = .ok (.string S3) w') (fun _ h => h.1) _ _ _ _ ?_
          have hHeld2 := And.intro hHeld hcv16
          clear hHeld hcv16
          (refine takeD (i := 9) (d := 127) (oi := _) (v := ?_) rfl rfl (by kernel_rfl) (by kernel_rfl) (by kernel_rfl) (fun _ _ _ h => h) (Or.inl ⟨by rfl, ?_⟩) (by assumption) ?_; rotate_left; (focus ((intro w hSw; (try dsimp only at hSw); go_simp) <;> (with_reducible rfl))); (try simp only [Act.put, List.setIfInBounds_toArray, List.set_cons_zero, List.set_cons_succ]))
          (refine takeD (i := 14) (d := 132) (oi := _) (v := ?_) rfl rfl (by kernel_rfl) (by kernel_rfl) (by kernel_rfl) (fun _ _ _ h => h) (Or.inl ⟨by rfl, ?_⟩) (by assumption) ?_; rotate_left; (focus ((intro w hSw; (try dsimp only at hSw); go_simp) <;> (with_reducible rfl))); (try simp only [Act.put, List.setIfInBounds_toArray, List.set_cons_zero, List.set_cons_succ]))
          (refine takeD (i := 15) (d := 133) (oi := _) (v := ?_) rfl rfl (by kernel_rfl) (by kernel_rfl) (by kernel_rfl) (fun _ _ _ h => h) (Or.inl ⟨by rfl, ?_⟩) (by assumption) ?_; rotate_left; (focus ((intro w hSw; (try dsimp only at hSw); go_simp) <;> (with_reducible rfl))); (try simp only [Act.put, List.setIfInBounds_toArray, List.set_cons_zero, List.set_cons_succ]))
          refine wpAnyH_done (by kernel_rfl) ?_ _
          clear hHeld2
          all_goals go_wp2_with fail
          all_goals (have hwk := works_any w16)
          all_goals go_wp2_with fail
          all_goals (with_reducible refine hwk.mono ?_)
          all_goals (rintro e w20 ⟨rfl, hb20⟩)
          all_goals go_wp2_with fail
          all_goals go_ret
          all_goals exact ⟨rfl, hB16.trans (hb20.mono hB16.size)⟩
        · clear HBK3
          have he3i : ¬ (e3 : Int) = 0 := by omega
          have hbe3 : ((e3 : Int) == 0) = false := by rw [beq_eq_false_iff_ne]; omega
          have b15 := bel_mark w14 (.cells #[.int .i64 f2, .int .i64 t2] 49)
          have B15 := B14.trans (b15.mono B14.size)
          clear b15
          go_wp2_with fail
          generalize w14.alloc (.cells #[.int .i64 f2, .int .i64 t2] 49) = W15 at *
          (refine wp_region_after (by kernel_rfl) (by kernel_rfl) ?_; (repeat (go_big_quiet_step (fail))); refine wpQuiet_nil ?_; intro wq hw0; obtain ⟨⟨wq0, hbq⟩, hw1⟩ := hw0; subst hw1; (try dsimp only))
          have B16 := B15.trans (hbq.mono B15.size)
          have hwk := works_any wq
          go_wp2_with fail
          with_reducible refine hwk.mono ?_
          rintro e w20 ⟨rfl, hb20⟩
          go_wp2_with fail
          go_ret
          exact ⟨rfl, B16.trans (hb20.mono B16.size)⟩
    · clear HBK2
      have he2i : ¬ (e2 : Int) = 0 := by omega
      have hbe2 : ((e2 : Int) == 0) = false := by rw [beq_eq_false_iff_ne]; omega
      clear r10
      go_wp2_with fail
      (refine wp_region_after (by kernel_rfl) (by kernel_rfl) ?_; (repeat (go_big_quiet_step (fail))); refine wpQuiet_nil ?_; intro wq hw0; obtain ⟨⟨wq0, hbq⟩, hw1⟩ := hw0; subst hw1; (try dsimp only))
      have B12 := B10.trans (hbq.mono B10.size)
      have h14 := HPE.out wq B12
      go_wp2_with fail
      with_reducible refine h14.mono ?_
      rintro e w14 ⟨rfl, hb14⟩
      have B14 := B12.trans (hb14.mono B12.size)
      clear h14
      by_cases he3 : e3 = 0
      · subst he3
        obtain ⟨i3, hi3, hi3l, hk3, hmx3, hp3⟩ := HBK3.out rfl
        skip
        subst hi3
        have hmi3 : (i3 : Int) ≤ c := by omega
        have hmk3 : (k3 : Int) ≤ c := by omega
        have HP3 := Lib.hid hp3.1
        have HL3 := Lib.hid hp3.2.1
        have HM3 := Lib.hid hp3.2.2.1
        have HC3 := Lib.hid hp3.2.2.2
        clear hp3 hmx3 HBK3
        have b15 := bel_mark w14 (.cells #[.int .i64 f2, .int .i64 t2] 49)
        have B15 := B14.trans (b15.mono B14.size)
        have o15 := Own.new w14 49 #[.int .i64 f2, .int .i64 t2]
        clear b15
        go_wp2_with fail
        generalize hg14 : w14.heap.size = g14 at *
        generalize w14.alloc (.cells #[.int .i64 f2, .int .i64 t2] 49) = W15 at *
        have B15d : Below w.heap.size w W15.drew := B15.drew
        have d15a := o15.cell 0; have d15b := o15.cell 1
        (try simp only [List.getElem?_toArray, List.getElem?_cons_zero, List.getElem?_cons_succ] at d15a d15b)
        have HS15 : ∀ w', Below W15.drew.heap.size W15.drew w' → (Below W15.drew.heap.size W15.drew w' ∧ w'.cell? ⟨g14, 0, none⟩ = some (.int .i64 f2) ∧ w'.cell? ⟨g14, 1, none⟩ = some (.int .i64 t2) ∧ (convert 22 9 (.slice A k3 c)).run Try.prog w' = .ok (.string S3) w') := fun w' hb =>
          have ho := (show Own W15.drew _ _ _ from o15).below hb o15.lt
          ⟨hb, ho.cell 0, ho.cell 1, HC3.out _ (B15d.trans (hb.mono B15d.size))⟩
        have HS15 := Lib.hid HS15
        clear o15 B15 B14 hb14 d15a d15b
        refine wp_region_held_drew (S := fun w' => Below W15.drew.heap.size W15.drew w' ∧ w'.cell? ⟨g14, 0, none⟩ = some (.int .i64 f2) ∧ w'.cell? ⟨g14, 1, none⟩ = some (.int .i64 t2) ∧ (convert 22 9 (.slice A k3 c)).run Try.prog w' = .ok (.string S3) w') (by kernel_rfl) (HS15.out _ (Below.refl _ _)) (fun hHeld => ?_)
        (refine takeD (i := 0) (d := 118) (oi := _) (v := ?_) rfl rfl (by kernel_rfl) (by kernel_rfl) (by kernel_rfl) (fun _ _ _ h => h) (Or.inl ⟨by rfl, ?_⟩) (by assumption) ?_; rotate_left; (focus ((intro w hSw; (try dsimp only at hSw); go_simp) <;> (with_reducible rfl))); (try simp only [Act.put, List.setIfInBounds_toArray, List.set_cons_zero, List.set_cons_succ]))
        (refine takeD (i := 1) (d := 119) (oi := _) (v := ?_) rfl rfl (by kernel_rfl) (by kernel_rfl) (by kernel_rfl) (fun _ _ _ h => h) (Or.inl ⟨by rfl, ?_⟩) (by assumption) ?_; rotate_left; (focus ((intro w hSw; (try dsimp only at hSw); go_simp) <;> (with_reducible rfl))); (try simp only [Act.put, List.setIfInBounds_toArray, List.set_cons_zero, List.set_cons_succ]))
        (refine takeD (i := 2) (d := 120) (oi := _) (v := ?_) rfl rfl (by kernel_rfl) (by kernel_rfl) (by kernel_rfl) (fun _ _ _ h => h) (Or.inl ⟨by rfl, ?_⟩) (by assumption) ?_; rotate_left; (focus ((intro w hSw; (try dsimp only at hSw); go_simp) <;> (with_reducible rfl))); (try simp only [Act.put, List.setIfInBounds_toArray, List.set_cons_zero, List.set_cons_succ]))
        (refine takeD (i := 3) (d := 121) (oi := _) (v := ?_) rfl rfl (by kernel_rfl) (by kernel_rfl) (by kernel_rfl) (fun _ _ _ h => h) (Or.inl ⟨by rfl, ?_⟩) (by assumption) ?_; rotate_left; (focus ((intro w hSw; (try dsimp only at hSw); go_simp) <;> (with_reducible rfl))); (try simp only [Act.put, List.setIfInBounds_toArray, List.set_cons_zero, List.set_cons_succ]))
        (refine takeD (i := 4) (d := 122) (oi := _) (v := ?_) rfl rfl (by kernel_rfl) (by kernel_rfl) (by kernel_rfl) (fun _ _ _ h => h) (Or.inl ⟨by rfl, ?_⟩) (by assumption) ?_; rotate_left; (focus ((intro w hSw; (try dsimp only at hSw); go_simp) <;> (with_reducible rfl))); (try simp only [Act.put, List.setIfInBounds_toArray, List.set_cons_zero, List.set_cons_succ]))
        (refine takeD (i := 5) (d := 123) (oi := _) (v := ?_) rfl rfl (by kernel_rfl) (by kernel_rfl) (by kernel_rfl) (fun _ _ _ h => h) (Or.inl ⟨by rfl, ?_⟩) (by assumption) ?_; rotate_left; (focus ((intro w hSw; (try dsimp only at hSw); go_simp) <;> (with_reducible rfl))); (try simp only [Act.put, List.setIfInBounds_toArray, List.set_cons_zero, List.set_cons_succ]))
        (refine takeD (i := 6) (d := 124) (oi := _) (v := ?_) rfl rfl (by kernel_rfl) (by kernel_rfl) (by kernel_rfl) (fun _ _ _ h => h) (Or.inl ⟨by rfl, ?_⟩) (by assumption) ?_; rotate_left; (focus ((intro w hSw; (try dsimp only at hSw); go_simp) <;> (with_reducible rfl))); (try simp only [Act.put, List.setIfInBounds_toArray, List.set_cons_zero, List.set_cons_succ]))
        (refine takeD (i := 7) (d := 125) (oi := _) (v := ?_) rfl rfl (by kernel_rfl) (by kernel_rfl) (by kernel_rfl) (fun _ _ _ h => h) (Or.inl ⟨by rfl, ?_⟩) (by assumption) ?_; rotate_left; (focus ((intro w hSw; (try dsimp only at hSw); go_simp) <;> (with_reducible rfl))); (try simp only [Act.put, List.setIfInBounds_toArray, List.set_cons_zero, List.set_cons_succ]))
        (refine takeD (i := 10) (d := 128) (oi := _) (v := ?_) rfl rfl (by kernel_rfl) (by kernel_rfl) (by kernel_rfl) (fun _ _ _ h => h) (Or.inl ⟨by rfl, ?_⟩) (by assumption) ?_; rotate_left; (focus ((intro w hSw; (try dsimp only at hSw); go_simp) <;> (with_reducible rfl))); (try simp only [Act.put, List.setIfInBounds_toArray, List.set_cons_zero, List.set_cons_succ]))
        (refine takeD (i := 11) (d := 129) (oi := _) (v := ?_) rfl rfl (by kernel_rfl) (by kernel_rfl) (by kernel_rfl) (fun _ _ _ h => h) (Or.inl ⟨by rfl, ?_⟩) (by assumption) ?_; rotate_left; (focus ((intro w hSw; (try dsimp only at hSw); go_simp) <;> (with_reducible rfl))); (try simp only [Act.put, List.setIfInBounds_toArray, List.set_cons_zero, List.set_cons_succ]))
        (refine takeD (i := 12) (d := 130) (oi := _) (v := ?_) rfl rfl (by kernel_rfl) (by kernel_rfl) (by kernel_rfl) (fun _ _ _ h => h) (Or.inl ⟨by rfl, ?_⟩) (by assumption) ?_; rotate_left; (focus ((intro w hSw; (try dsimp only at hSw); go_simp) <;> (with_reducible rfl))); (try simp only [Act.put, List.setIfInBounds_toArray, List.set_cons_zero, List.set_cons_succ]))
        (refine takeD (i := 13) (d := 131) (oi := _) (v := ?_) rfl rfl (by kernel_rfl) (by kernel_rfl) (by kernel_rfl) (fun _ _ _ h => h) (Or.inl ⟨by rfl, ?_⟩) (by assumption) ?_; rotate_left; (focus ((intro w hSw; (try dsimp only at hSw); go_simp) <;> (with_reducible rfl))); (try simp only [Act.put, List.setIfInBounds_toArray, List.set_cons_zero, List.set_cons_succ]))
        refine wpAnyH_ready (rs := [8]) (by kernel_rfl) (by simp) ?_
        refine AllReadyH.cons (o := _) rfl (fun K hK => ?_) AllReadyH.nil
        go_simp
        (go_at_call 34; refine (HP3.out _ B15d).mono ?_; rintro e w16 ⟨v16, rfl, ho16, hb⟩; have hcv16 := conv_rdB (RdB.of_own ho16 HL3.out); rw [HM3.out] at hcv16; have hB16 := B15d.trans (hb.mono B15d.size); clear ho16; go_wp2_with fail)
        refine hK.out _ _ (by (try dsimp only); exact HS15.out _ hb) (fun hHeld => ?_)
        clear hK
        (try simp only [Act.put, List.setIfInBounds_toArray, List.set_cons_zero, List.set_cons_succ])
        refine wpAnyH_mono (S' := fun w' => (Below W15.drew.heap.size W15.drew w' ∧ w'.cell? ⟨g14, 0, none⟩ = some (.int .i64 f2) ∧ w'.cell? ⟨g14, 1, none⟩ = some (.int .i64 t2) ∧ (convert 22 9 (.slice A k3 c)).run Try.prog w' = .ok (.string S3) w') ∧ (convert 22 9 v16).run Try.prog w' = .ok (.string S3) w') (fun _ h => h.1) _ _ _ _ ?_
        have hHeld2 := And.intro hHeld hcv16
        clear hHeld hcv16
        (refine takeD (i := 9) (d := 127) (oi := _) (v := ?_) rfl rfl (by kernel_rfl) (by kernel_rfl) (by kernel_rfl) (fun _ _ _ h => h) (Or.inl ⟨by rfl, ?_⟩) (by assumption) ?_; rotate_left; (focus ((intro w hSw; (try dsimp only at hSw); go_simp) <;> (with_reducible rfl))); (try simp only [Act.put, List.setIfInBounds_toArray, List.set_cons_zero, List.set_cons_succ]))
        (refine takeD (i := 14) (d := 132) (oi := _) (v := ?_) rfl rfl (by kernel_rfl) (by kernel_rfl) (by kernel_rfl) (fun _ _ _ h => h) (Or.inl ⟨by rfl, ?_⟩) (by assumption) ?_; rotate_left; (focus ((intro w hSw; (try dsimp only at hSw); go_simp) <;> (with_reducible rfl))); (try simp only [Act.put, List.setIfInBounds_toArray, List.set_cons_zero, List.set_cons_succ]))
        (refine takeD (i := 15) (d := 133) (oi := _) (v := ?_) rfl rfl (by kernel_rfl) (by kernel_rfl) (by kernel_rfl) (fun _ _ _ h => h) (Or.inl ⟨by rfl, ?_⟩) (by assumption) ?_; rotate_left; (focus ((intro w hSw; (try dsimp only at hSw); go_simp) <;> (with_reducible rfl))); (try simp only [Act.put, List.setIfInBounds_toArray, List.set_cons_zero, List.set_cons_succ]))
        refine wpAnyH_done (by kernel_rfl) ?_ _
        clear hHeld2
        all_goals go_wp2_with fail
        all_goals (have hwk := works_any w16)
        all_goals go_wp2_with fail
        all_goals (with_reducible refine hwk.mono ?_)
        all_goals (rintro e w20 ⟨rfl, hb20⟩)
        all_goals go_wp2_with fail
        all_goals go_ret
        all_goals exact ⟨rfl, hB16.trans (hb20.mono hB16.size)⟩
      · clear HBK3
        have he3i : ¬ (e3 : Int) = 0 := by omega
        have hbe3 : ((e3 : Int) == 0) = false := by rw [beq_eq_false_iff_ne]; omega
        have b15 := bel_mark w14 (.cells #[.int .i64 f2, .int .i64 t2] 49)
        have B15 := B14.trans (b15.mono B14.size)
        clear b15
        go_wp2_with fail
        generalize w14.alloc (.cells #[.int .i64 f2, .int .i64 t2] 49) = W15 at *
        (refine wp_region_after (by kernel_rfl) (by kernel_rfl) ?_; (repeat (go_big_quiet_step (fail))); refine wpQuiet_nil ?_; intro wq hw0; obtain ⟨⟨wq0, hbq⟩, hw1⟩ := hw0; subst hw1; (try dsimp only))
        have B16 := B15.trans (hbq.mono B15.size)
        have hwk := works_any wq
        go_wp2_with fail
        with_reducible refine hwk.mono ?_
        rintro e w20 ⟨rfl, hb20⟩
        go_wp2_with fail
        go_ret
        exact ⟨rfl, B16.trans (hb20.mono B16.size)⟩
end Go.Proofs.Ytomiegfblhhhpaa
