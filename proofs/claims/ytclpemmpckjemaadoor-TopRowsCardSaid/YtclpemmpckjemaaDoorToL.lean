/-
  The walk of the statement TopRows. Conditions: none.
-/
import Derived.Test.YtclpemmpckjemaaDoorToN
import Derived.WalkKit
import Derived.WalkSpells
import Derived.WalkLawsBesides
import Derived.Deep.QuietTactic
import Derived.BigQuiet
import Derived.Handy
import Derived.Lib.Hide
namespace Go.Proofs.YtclpemmpckjemaaDoor
open Go.RowKit

set_option maxRecDepth 100000 in
theorem rdV_one (w : World) (g : Nat) (hg : g = w.heap.size) : RdV (w.alloc (.cells #[.int .i64 1, .int .i64 1, .string ⟨#[]⟩] 24)) 0 (w.alloc (.cells #[.int .i64 1, .int .i64 1, .string ⟨#[]⟩] 24)).heap.size (.slice (some ⟨g, 0, none⟩) 1 1) oneL := by
  subst hg
  have h := rdV_row (ps := oneL) (w := w.alloc (.cells #[.int .i64 1, .int .i64 1, .string ⟨#[]⟩] 24)) (g := w.heap.size) (Own.new w _ _) (by decide)
  exact h
set_option maxRecDepth 100000 in
set_option maxHeartbeats 12800000 in
theorem law_topRows (u v : Value) (ps qs : List Vl) (w : World) (L L2 : Nat) (henv : Fr.Env w) (hu : RdV w L w.heap.size u ps) (hv : RdV w L2 w.heap.size v qs) :
    Calls Tryd.prog 3 #[u, v] w fun e w' => e = .returned (.bool true) ∧ Below w.heap.size w w' := by
  have r1 := rdV_one w w.heap.size rfl
  have bX := bel_mark w (.cells #[.int .i64 1, .int .i64 1, .string ⟨#[]⟩] 24)
  have h1 := tupleCompare_any (.slice none 0 0) (.slice (some ⟨w.heap.size, 0, none⟩) 1 1) [] oneL (w.alloc (.cells #[.int .i64 1, .int .i64 1, .string ⟨#[]⟩] 24)) 0 0 (rdV_nil _ _ _) r1
  rw [oneL_cmp] at h1
  have H2 := Lib.hid (fun W (h : Below (w.alloc (.cells #[.int .i64 1, .int .i64 1, .string ⟨#[]⟩] 24)).heap.size (w.alloc (.cells #[.int .i64 1, .int .i64 1, .string ⟨#[]⟩] 24)) W) => pKey_any (.slice (some ⟨w.heap.size, 0, none⟩) 1 1) oneL oneL_ok W 0 (r1.step h (Nat.le_refl _)) (by rw [oneL_sz]; omega))
  have H3 := Lib.hid (fun W (h : Below w.heap.size w W) => short_any u ps W L (hu.step h (Nat.le_refl _)))
  have H4 := Lib.hid (fun W (h : Below w.heap.size w W) => short_any v qs W L2 (hv.step h (Nat.le_refl _)))
  have HU := Lib.hid (fun W (h : Below w.heap.size w W) => hu.step h (Nat.le_refl _))
  have HV := Lib.hid (fun W (h : Below w.heap.size w W) => hv.step h (Nat.le_refl _))
  have HEN := Lib.hid henv
  have HX := Lib.hid bX
  have zX := bX.size
  obtain ⟨A, c, rfl, _⟩ := hu
  obtain ⟨A2, c2, rfl, _⟩ := hv
  clear r1 henv bX
  have H1 := Lib.hid h1
  clear h1
  go_enter Tryd.func3, Tryd.ntmps3
  go_wp2_with fail
  with_reducible refine H1.out.mono ?_
  rintro e w1 ⟨rfl, hb1⟩
  have h2 := H2.out w1 hb1
  have B1 := HX.out.trans (hb1.mono zX)
  clear H1 H2
  go_wp2_with fail
  with_reducible refine h2.mono ?_
  rintro e w2 ⟨v2, rfl, ho2, hb2⟩
  obtain ⟨A3, c3, rfl, _⟩ := RdB.of_own ho2 (by rw [oneL_len]; omega)
  rw [oneL_len]
  have B2 := B1.trans (hb2.mono B1.size)
  have h3 := H3.out w2 B2
  clear h2 H3 ho2
  cases hk : (decide (ps.length ≤ 12) && okL ps)
  · rw [hk] at h3
    go_wp2_with fail
    with_reducible refine h3.mono ?_
    rintro e w3 ⟨rfl, hb3⟩
    go_wp2_with fail
    go_ret
    exact ⟨rfl, B2.trans (hb3.mono B2.size)⟩
  rw [hk] at h3
  go_wp2_with fail
  with_reducible refine h3.mono ?_
  rintro e w3 ⟨rfl, hb3⟩
  have B3 := B2.trans (hb3.mono B2.size)
  have h4 := H4.out w3 B3
  clear h3 H4
  cases hq : (decide (qs.length ≤ 12) && okL qs)
  · rw [hq] at h4
    go_wp2_with fail
    with_reducible refine h4.mono ?_
    rintro e w4 ⟨rfl, hb4⟩
    go_wp2_with fail
    go_ret
    exact ⟨rfl, B3.trans (hb4.mono B3.size)⟩
  rw [hq] at h4
  simp only [Bool.and_eq_true, decide_eq_true_eq] at hk hq
  obtain ⟨hp12, hok⟩ := hk
  obtain ⟨hq12, hoq⟩ := hq
  have hsp := szL_short ps hok
  have hsq := szL_short qs hoq
  have hlp := keyL_len ps hok
  have hlq := keyL_len qs hoq
  have hel := encR_len ps hok (by omega)
  have hko := key_order ps qs hok hoq
  have hrow := rowF_put [] [] ps hok hp12
  simp only [List.nil_append, List.append_nil, List.length_nil, Nat.zero_add] at hrow
  have hrow : rowF (encR ps) (0 : Int) = (0, ps, (encR ps).length) := hrow
  have H5 := Lib.hid (fun W (h : Below w.heap.size w W) => pKey_any (.slice A ps.length c) ps hok W L (HU.out W h) (by omega))
  have H6 := Lib.hid (fun W (h : Below w.heap.size w W) => pKey_any (.slice A2 qs.length c2) qs hoq W L2 (HV.out W h) (by omega))
  have H7 := Lib.hid (fun W (h : Below w.heap.size w W) => tupleCompare_any (.slice A ps.length c) (.slice A2 qs.length c2) ps qs W L L2 (HU.out W h) (HV.out W h))
  have H8 := Lib.hid (fun W (h : Below w.heap.size w W) => pPutRow_any (.slice none 0 0) (.slice A ps.length c) [] ps hok W 0 L (rdB_nil _ _ _) (HU.out W h) (by simp only [List.length_nil]; omega) (by omega))
  have HS := Lib.hid (cmpR_self ps)
  have HP := Lib.hid (show (keyL ps).length ≤ 9223372036854775807 by omega)
  have HQ := Lib.hid (show (keyL qs).length ≤ 9223372036854775807 by omega)
  have HE := Lib.hid (show (encR ps).length ≤ 1048576 by omega)
  have HNX := Lib.hid (Fr.nextF_frm (encR ps) (by omega))
  have HFL := Lib.hid (show (Fr.frmL [] (encR ps)).length ≤ 9223372036854775807 by rw [Fr.frmL_enc, List.nil_append, Fr.enc_len]; omega)
  simp only [List.nil_append] at H8
  generalize keyL ps = X at *
  generalize keyL qs = Y at *
  generalize encR ps = Z at *
  generalize hF : Fr.frmL [] Z = F at *
  have HF := Lib.hid hF
  clear hF
  have HROW := Lib.hid hrow
  have HKO := Lib.hid hko
  clear hok hoq hsp hsq hlp hlq hel hko hrow hp12 hq12
  go_wp2_with fail
  with_reducible refine h4.mono ?_
  rintro e w4 ⟨rfl, hb4⟩
  have B4 := B3.trans (hb4.mono B3.size)
  have h5 := H5.out w4 B4
  clear h4
  go_wp2_with fail
  with_reducible refine h5.mono ?_
  rintro e w5 ⟨v5, rfl, ho5, hb5⟩
  have B5 := B4.trans (hb5.mono B4.size)
  have R5 := Lib.hid (RdB.of_own ho5 HP.out)
  have h6 := H6.out w5 B5
  clear h5 ho5
  go_wp2_with fail
  with_reducible refine h6.mono ?_
  rintro e w6 ⟨v6, rfl, ho6, hb6⟩
  have B6 := B5.trans (hb6.mono B5.size)
  have hor := order_any v5 v6 X Y w6 _ _ (R5.out.step hb6 (Nat.le_refl _)) (RdB.of_own ho6 HQ.out)
  rw [HKO.out] at hor
  have HOR := Lib.hid hor
  clear h6 ho6 hor
  generalize cmpR ps qs = C at *
  go_wp2_with fail
  with_reducible refine HOR.out.mono ?_
  rintro e w7 ⟨rfl, hb7⟩
  have B7 := B6.trans (hb7.mono B6.size)
  have h7 := H7.out w7 B7
  clear HOR
  go_wp2_with fail
  with_reducible refine h7.mono ?_
  rintro e w8 ⟨rfl, hb8⟩
  have B8 := B7.trans (hb8.mono B7.size)
  have h8 := H8.out w8 B8
  clear h7
  go_wp2_with fail
  with_reducible refine h8.mono ?_
  rintro e w9 ⟨v9, rfl, ho9, hb9⟩
  have B9 := B8.trans (hb9.mono B8.size)
  have h9 := Fr.pAppend_any (.slice none 0 0) v9 [] Z w9 0 _ (HEN.out.step B9) (Fr.rdB_nil _ _ _) (RdB.of_own ho9 (by have := HE.out; omega)) (by simp) HE.out (own_not_none ho9)
  have H9 := Lib.hid h9
  clear h8 ho9 h9
  go_wp2_with fail
  with_reducible refine H9.out.mono ?_
  rintro e w10 ⟨v10, rfl, ho10, hb10⟩
  have B10 := B9.trans (hb10.mono B9.size)
  rw [HF.out] at ho10
  have hr10 := RdB.of_own ho10 HFL.out
  have hnx := Fr.pNext_any v10 F 0 w10 _ (HEN.out.step B10) hr10
  rw [HNX.out] at hnx
  obtain ⟨A4, c4, rfl, _⟩ := hr10
  have HNX2 := Lib.hid hnx
  clear H9 ho10 hnx
  go_wp2_with fail
  with_reducible refine HNX2.out.mono ?_
  rintro e w11 ⟨v11, rfl, r11, hb11⟩
  have B11 := B10.trans (hb11.mono B10.size)
  have hrw := pRow_any v11 Z 0 w11 _ r11
  rw [HROW.out] at hrw
  obtain ⟨A5, c5, rfl, _⟩ := r11
  have HRW := Lib.hid hrw
  clear HNX2 hrw
  go_wp2_with fail
  with_reducible refine HRW.out.mono ?_
  rintro e w12 ⟨v12, rfl, r12, hb12⟩
  have B12 := B11.trans (hb12.mono B11.size)
  have heq := equal8_any v12 (.slice A ps.length c) ps ps w12 _ _ r12 (HU.out w12 B12)
  rw [HS.out] at heq
  have HEQ := Lib.hid heq
  clear HRW heq r12
  go_wp2_with fail
  with_reducible refine HEQ.out.mono ?_
  rintro e w13 ⟨rfl, hb13⟩
  go_wp2_with fail
  go_ret
  exact ⟨rfl, B12.trans (hb13.mono B12.size)⟩
end Go.Proofs.YtclpemmpckjemaaDoor
