/-
  The walk of the statement CodecKeys. Conditions: lengths.
-/
import Derived.Test.YtomiegfblhhhpaaCoKd
import Derived.Test.YtomiegfblhhhpaaCoKr
import Derived.Test.YtomiegfblhhhpaaCoSp
import Derived.Test.YtomiegfblhhhpaaCoEq
import Derived.Laws.AppendOwnNone
import Derived.Test.YtomiegfblhhhpaaCoS
import Derived.WalkKit
import Derived.WalkSpells
import Derived.WalkLawsBesides
import Derived.Deep.QuietTactic
import Derived.BigQuiet
import Derived.Handy
import Derived.Lib.Hide
namespace Go.Proofs.Ytomiegfblhhhpaa
open Go.RowKit

theorem addB1 (ad : Addr) : ad.add 1 = ⟨ad.block, ad.off + 1, none⟩ := by unfold Addr.add; simp
theorem addB2 (ad : Addr) : ad.add 2 = ⟨ad.block, ad.off + 2, none⟩ := by unfold Addr.add; simp
theorem flat_of_rdV {w : World} {L B : Nat} {ad : Addr} {n c : Nat} {m : List Vl} (h : RdV w L B (.slice (some ad) n c) m) : ∀ (j : Nat) u, (flatV m)[j]? = some u → w.cell? (ad.add j) = some u := by
  intro j u hu
  obtain ⟨A, c', hv, _, hc⟩ := h
  injection hv with e1 _ _
  subst e1
  have hj : j < m.length * 3 := by rw [← flatV_len]; exact (List.getElem?_eq_some_iff.1 hu).1
  have hk : j / 3 < m.length := by omega
  obtain ⟨ad2, e2, _, _, g0, g1, g2⟩ := hc (j / 3) _ (List.getElem?_eq_getElem hk)
  injection e2 with e2
  subst e2
  obtain ⟨f0, f1, f2⟩ := flatV_get m (j / 3) _ (List.getElem?_eq_getElem hk)
  have h3 : j = j / 3 * 3 ∨ j = j / 3 * 3 + 1 ∨ j = j / 3 * 3 + 2 := by omega
  generalize j / 3 = k at *
  rcases h3 with rfl | rfl | rfl
  · rw [f0] at hu; rw [← hu]; exact g0
  · rw [f1] at hu; rw [← hu, ← add_add ad (k * 3) 1, addB1 (ad.add (k * 3))]; exact g1
  · rw [f2] at hu; rw [← hu, ← add_add ad (k * 3) 2, addB2 (ad.add (k * 3))]; exact g2
theorem append_vx {ops : Array Oper} {rest : List Oper} {o : Oper} {a : Act} {Q : Exit → Act → World → Prop} (W : World) (hw : Region.wanted o (yielded ops a.tmps) = true) (s x : Operand)
    (ho : o.op = .call { callee := .builtin .append, args := #[s, x], argTypes := #[41, 41] }) (base : Nat) (v : Value) (l : List Vl) (hs : a.eval s = v)
    (hown : W.ownsRow base 35 3 v l.length (flatV l)) (u : Value) (m : List Vl) (L B : Nat) (hx : a.eval x = u) (hr : RdV W L B u m) (hun : ∀ n c, u = .slice none n c → c = 0) (hl : l.length + m.length ≤ 2199023255552) (hbase : base ≤ W.heap.size)
    (h : ∀ v' w', w'.ownsRow base 35 3 v' (l ++ m).length (flatV (l ++ m)) → Below base W w' → wpList Try.prog ops Q rest (a.put o.dst v') w') :
    wpList Try.prog ops Q (o :: rest) a W := by
  have hr0 := hr
  obtain ⟨A, c, rfl, _, hc⟩ := hr
  obtain ⟨i0, hi, hz0, hz1, hz2⟩ := info_partsB infoV
  unfold wpList
  rw [if_pos hw]
  refine Or.inl ?_
  cases A with
  | none =>
    have hm0 : m = [] := by
      cases m with
      | nil => rfl
      | cons b t => obtain ⟨ad, h1, _⟩ := hc 0 _ rfl; cases h1
    subst hm0
    obtain rfl := hun _ _ rfl
    have hrun := run_append_owned_none (P := Try.prog) (w := W) base 41 o.type 35 i0 3 Try.underlying41 hi v _ _ hown
    unfold Oper.wp
    simp [execOp, ho, resolve, invoke, builtin, hs, hx, hrun, Result.andThen]
    exact h v W (by rw [List.append_nil]; exact hown) (Below.refl _ _)
  | some ad =>
    refine wp_append_own W s x 41 ho base 35 i0 (.agg #[.int .i64 0, .int .i64 0, .string ⟨#[]⟩]) 3 32 Try.underlying41 hi hz0 hz1 hz2 rfl (by decide) v l.length (flatV l) hs hown ad m.length c (flatV m) hx (by rw [flatV_len])
      (flat_of_rdV hr0) (fun u hu => ?_) (by unfold maxLen; omega) (by omega) hbase ?_
    · have hall : ∀ ps : List Vl, ∀ u ∈ flatV ps, u.oneCell' = true := by
        intro ps
        induction ps with
        | nil => intro u hu; cases hu
        | cons p t ih =>
          intro u hu
          have hu2 : u ∈ (.int .i64 p.1 :: .int .i64 p.2.1 :: .string p.2.2 :: flatV t : List Value) := hu
          simp only [List.mem_cons] at hu2
          rcases hu2 with rfl | rfl | rfl | hu2
          · rfl
          · rfl
          · rfl
          · exact ih u hu2
      exact hall m u hu
    · intro v' w' h1 h2 _
      exact h v' w' (by rw [flatV_append, List.length_append]; exact h1) ((Below.refl _ _).grown h2 hbase fun k hk => (hown.lt k hk).1)
theorem own_litV (w : World) : (w.alloc (.cells #[] 35)).ownsRow w.heap.size 35 3 (.slice (some ⟨w.heap.size, 0, none⟩) 0 0) ([] : List Vl).length (flatV []) :=
  ⟨rfl, .inr ⟨w.heap.size, 0, #[], rfl, Nat.le_refl _, heap_alloc_new w _, Nat.le_refl _, Nat.zero_le _, rfl, rfl⟩⟩
theorem okL_append (a b : List Vl) : okL (a ++ b) = (okL a && okL b) := by unfold okL; rw [List.all_append]
theorem szL_append (a b : List Vl) : szL (a ++ b) = szL a + szL b := by unfold szL; rw [List.map_append, List.sum_append_nat]
theorem keyL_append (a b : List Vl) : keyL (a ++ b) = keyL a ++ keyL b := by unfold keyL; rw [List.map_append, List.flatten_append]
set_option maxRecDepth 100000 in
set_option maxHeartbeats 12800000 in
theorem law_keys (u v : Value) (ps qs : List Vl) (w : World) (L L2 : Nat) (hu : RdV w L w.heap.size u ps) (hv : RdV w L2 w.heap.size v qs) (hun : ∀ n c, u = .slice none n c → c = 0) (hvn : ∀ n c, v = .slice none n c → c = 0) (hs : szL ps + szL qs ≤ 140737488350000) (hl : ps.length + qs.length ≤ 1099511627776) :
    Calls Try.prog 8 #[u, v] w fun e w' => e = .returned (.bool true) ∧ Below w.heap.size w w' := by
  have h1 := validAll_any u ps w L hu
  cases hok : okL ps
  · rw [hok] at h1
    clear hok
    obtain ⟨A, c, rfl, _⟩ := hu
    obtain ⟨A2, c2, rfl, _⟩ := hv
    go_enter Try.func8, Try.ntmps8
    go_wp2_with fail
    with_reducible refine h1.mono ?_
    rintro e w1 ⟨rfl, hb1⟩
    have hwk := works_any w1
    go_wp2_with fail
    with_reducible refine hwk.mono ?_
    rintro e w2 ⟨rfl, hb2⟩
    go_wp2_with fail
    go_ret
    exact ⟨rfl, hb1.trans (hb2.mono hb1.size)⟩
  · rw [hok] at h1
    have H2 := Lib.hid (fun W (h : Below w.heap.size w W) => validAll_any v qs W L2 (hv.step h (Nat.le_refl _)))
    cases hoq : okL qs
    · have H2 := H2.out
      rw [hoq] at H2
      have H2 := Lib.hid H2
      clear hok hoq
      obtain ⟨A, c, rfl, _⟩ := hu
      obtain ⟨A2, c2, rfl, _⟩ := hv
      go_enter Try.func8, Try.ntmps8
      go_wp2_with fail
      with_reducible refine h1.mono ?_
      rintro e w1 ⟨rfl, hb1⟩
      have h2 := H2.out w1 hb1
      go_wp2_with fail
      with_reducible refine h2.mono ?_
      rintro e w2 ⟨rfl, hb2⟩
      have hwk := works_any w2
      go_wp2_with fail
      with_reducible refine hwk.mono ?_
      rintro e w3 ⟨rfl, hb3⟩
      go_wp2_with fail
      go_ret
      exact ⟨rfl, (hb1.trans (hb2.mono hb1.size)).trans (hb3.mono (Nat.le_trans hb1.size hb2.size))⟩
    · have H2 := H2.out
      rw [hoq] at H2
      have hlp := keyL_len ps hok
      have hlq := keyL_len qs hoq
      have hko := key_order ps qs hok hoq
      have H3 := Lib.hid (fun W (h : Below w.heap.size w W) => pKey_any u ps hok W L (hu.step h (Nat.le_refl _)) (by omega))
      have H4 := Lib.hid (fun W (h : Below w.heap.size w W) => pKey_any v qs hoq W L2 (hv.step h (Nat.le_refl _)) (by omega))
      have H5 := Lib.hid (fun W (h : Below w.heap.size w W) => rKey_any u ps hok W L (hu.step h (Nat.le_refl _)) (by omega))
      have H6 := Lib.hid (fun W (h : Below w.heap.size w W) => rCompare_any u v ps qs W L L2 (hu.step h (Nat.le_refl _)) (hv.step h (Nat.le_refl _)))
      have H7 := Lib.hid (fun v1 W L (h : RdV W L W.heap.size v1 (ps ++ qs)) => pKey_any v1 (ps ++ qs) (by rw [okL_append, hok, hoq]; rfl) W L h (by rw [szL_append]; omega))
      have HU := Lib.hid (fun W (h : Below w.heap.size w W) => hu.step h (Nat.le_refl _))
      have HV := Lib.hid (fun W (h : Below w.heap.size w W) => hv.step h (Nat.le_refl _))
      have HP := Lib.hid (show (keyL ps).length ≤ 9223372036854775807 by omega)
      have HQ := Lib.hid (show (keyL qs).length ≤ 9223372036854775807 by omega)
      have HPQ := Lib.hid (show (keyL ps ++ keyL qs).length ≤ 9223372036854775807 by rw [List.length_append]; omega)
      have HL := Lib.hid hl
      have HUN := Lib.hid hun
      have HVN := Lib.hid hvn
      have H2 := Lib.hid H2
      rw [keyL_append] at H7
      generalize keyL ps = X at *
      generalize keyL qs = Y at *
      obtain ⟨A, c, rfl, _⟩ := hu
      obtain ⟨A2, c2, rfl, _⟩ := hv
      have HKO := Lib.hid hko
      clear hok hoq hlp hlq hko hs hl hun hvn
      generalize cmpR ps qs = C at *
      go_enter Try.func8, Try.ntmps8
      go_wp2_with fail
      with_reducible refine h1.mono ?_
      rintro e w1 ⟨rfl, hb1⟩
      have h2 := H2.out w1 hb1
      clear h1
      go_wp2_with fail
      with_reducible refine h2.mono ?_
      rintro e w2 ⟨rfl, hb2⟩
      have B2 := hb1.trans (hb2.mono hb1.size)
      have h3 := H3.out w2 B2
      clear h2
      go_wp2_with fail
      with_reducible refine h3.mono ?_
      rintro e w3 ⟨v3, rfl, ho3, hb3⟩
      have B3 := B2.trans (hb3.mono B2.size)
      have R3 := Lib.hid (RdB.of_own ho3 HP.out)
      have h4 := H4.out w3 B3
      clear h3 ho3
      go_wp2_with fail
      with_reducible refine h4.mono ?_
      rintro e w4 ⟨v4, rfl, ho4, hb4⟩
      have B4 := B3.trans (hb4.mono B3.size)
      have R4 := Lib.hid (RdB.of_own ho4 HQ.out)
      have R34 := Lib.hid (R3.out.step hb4 (Nat.le_refl _))
      have h5 := H5.out w4 B4
      clear h4 ho4 R3
      go_wp2_with fail
      with_reducible refine h5.mono ?_
      rintro e w5 ⟨v5, rfl, ho5, hb5⟩
      have B5 := B4.trans (hb5.mono B4.size)
      have R35 := Lib.hid (R34.out.step hb5 (Nat.le_refl _))
      have R45 := Lib.hid (R4.out.step hb5 (Nat.le_refl _))
      have heq := equal_any v3 v5 X w5 _ _ _ _ R35.out (RdB.of_own ho5 HP.out)
      have hcmp := compare_any v3 v4 X Y w5 _ _ _ _ R35.out R45.out
      rw [HKO.out] at hcmp
      have HCMP := Lib.hid hcmp
      have h6 := H6.out w5 B5
      have H6 := Lib.hid h6
      clear h5 ho5 R34 R4 hcmp h6
      go_wp2_with fail
      with_reducible refine heq.mono ?_
      rintro e w6 ⟨rfl, hw6⟩
      subst w6
      clear heq
      go_wp2_with fail
      with_reducible refine HCMP.out.mono ?_
      rintro e w6 ⟨rfl, hw6⟩
      subst w6
      clear HCMP
      go_wp2_with fail
      with_reducible refine H6.out.mono ?_
      rintro e w6 ⟨rfl, hb6⟩
      have B6 := B5.trans (hb6.mono B5.size)
      have R36 := Lib.hid (R35.out.step hb6 (Nat.le_refl _))
      have b7 := bel_mark w6 (.cells #[] 35)
      have B7 := B6.trans (b7.mono B6.size)
      have O7 := Lib.hid (own_litV w6)
      have RU7 := Lib.hid (HU.out _ B7)
      have z7 := b7.size
      have HB7 := Lib.hid B7
      have Hb7 := Lib.hid b7
      clear H6 R35 R45 b7 B7
      go_wp2_with (first
        | (at_builtin; refine append_vx _ (by rfl) _ _ rfl w6.heap.size _ [] rfl O7.out _ ps _ _ rfl RU7.out HUN.out (by have := HL.out; simp; omega) z7 ?_; intro v8 w8 ho8 hb8; rw [List.nil_append] at ho8; have O8 := Lib.hid ho8; have HB8 := Lib.hid (HB7.out.trans (hb8.mono B6.size)); have Hb8 := Lib.hid (Hb7.out.trans hb8); have RV8 := Lib.hid (HV.out w8 HB8.out); have z8 := Nat.le_trans z7 hb8.size; clear ho8)
        | (at_builtin; refine append_vx _ (by rfl) _ _ rfl w6.heap.size _ ps rfl O8.out _ qs _ _ rfl RV8.out HVN.out (by have := HL.out; omega) z8 ?_; intro v9 w9 ho9 hb9; have O9 := Lib.hid ho9; have HB9 := Lib.hid (HB8.out.trans (hb9.mono B6.size)); have Hb9 := Lib.hid (Hb8.out.trans hb9); clear ho9))
      have h10 := H7.out _ w9 _ (RdV.of_own O9.out (by have := HL.out; rw [List.length_append]; omega))
      have R39 := Lib.hid ((R36.out.below Hb9.out).more Hb9.out.size (Nat.le_refl _))
      clear R36
      go_wp2_with fail
      with_reducible refine h10.mono ?_
      rintro e w10 ⟨v10, rfl, ho10, hb10⟩
      have B10 := HB9.out.trans (hb10.mono HB9.out.size)
      have hbg := begins_any v10 v3 X Y w10 _ _ (RdB.of_own ho10 HPQ.out) (R39.out.step hb10 (Nat.le_refl _))
      clear h10 ho10 R39
      go_wp2_with fail
      with_reducible refine hbg.mono ?_
      rintro e w11 ⟨rfl, hb11⟩
      have B11 := B10.trans (hb11.mono B10.size)
      have hwk := works_any w11
      go_wp2_with fail
      with_reducible refine hwk.mono ?_
      rintro e w12 ⟨rfl, hb12⟩
      go_wp2_with fail
      go_ret
      exact ⟨rfl, B11.trans (hb12.mono B11.size)⟩
end Go.Proofs.Ytomiegfblhhhpaa
