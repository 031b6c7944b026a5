import Derived.Test.YteihjneeiojgaaaGreatSEoA
import Derived.WalkKit
import Derived.WalkSpells
import Derived.WalkLawsBesides
import Derived.Deep.QuietTactic
import Derived.BigQuiet
import Derived.Handy
import Derived.Lib.Hide
/-
  The reference's Columns. Conditions: lengths, a bounded depth.
-/
namespace Go.Proofs.YteihjneeiojgaaaGreat
set_option maxRecDepth 100000
set_option linter.unusedVariables false
set_option linter.unusedSimpArgs false
open Go.RowKit

def stepC (f : Ex → List Int) (acc : List Int) (a : Ex) : List Int := (f a).foldl insI acc
/-- The columns, as the reference gathers them. -/
def refE : Nat → Ex → List Int
  | 0, _ => []
  | d + 1, e => e.args.foldl (stepC (refE d)) (colH e)
theorem stepC_len (f g : Ex → List Int) (h : ∀ a, (f a).length ≤ (g a).length) : ∀ (es : List Ex) (acc : List Int), (es.foldl (stepC f) acc).length ≤ acc.length + (es.flatMap g).length
  | [], acc => by simp
  | y :: es, acc => by
    have h1 := stepC_len f g h es (stepC f acc y)
    have h2 : (stepC f acc y).length ≤ acc.length + (f y).length := foldI_len (f y) acc
    have h3 := h y
    rw [List.foldl_cons, List.flatMap_cons, List.length_append]
    omega
theorem stepC_asc (f g : Ex → List Int) (h : ∀ a x, x ∈ f a ↔ x ∈ g a) : ∀ (es : List Ex) (acc : List Int), AscI acc → AscI (es.foldl (stepC f) acc) ∧ ∀ x, x ∈ es.foldl (stepC f) acc ↔ x ∈ acc ∨ x ∈ es.flatMap g
  | [], acc, ha => ⟨ha, fun x => by simp⟩
  | y :: es, acc, ha => by
    obtain ⟨h1, h2⟩ := foldI_asc (f y) acc ha
    obtain ⟨h3, h4⟩ := stepC_asc f g h es (stepC f acc y) h1
    refine ⟨h3, fun x => ?_⟩
    rw [List.foldl_cons, h4 x, show (x ∈ stepC f acc y ↔ x ∈ acc ∨ x ∈ f y) from h2 x, h y x, List.flatMap_cons, List.mem_append, or_assoc]
theorem colH_asc (e : Ex) : AscI (colH e) := by
  unfold colH AscI
  split <;> simp
theorem refE_asc : ∀ (d : Nat) (e : Ex), AscI (refE d e) ∧ ∀ x, x ∈ refE d e ↔ x ∈ colE d e
  | 0, e => ⟨by simp [refE, AscI], fun x => by simp [refE, colE]⟩
  | d + 1, e => by
    obtain ⟨h1, h2⟩ := stepC_asc (refE d) (colE d) (fun a => (refE_asc d a).2) e.args (colH e) (colH_asc e)
    refine ⟨h1, fun x => ?_⟩
    show x ∈ e.args.foldl (stepC (refE d)) (colH e) ↔ x ∈ colH e ++ e.args.flatMap (colE d)
    rw [h2 x, List.mem_append]
theorem refE_eq (d : Nat) (e : Ex) : refE d e = colS (colE d e) :=
  asc_ext _ _ (refE_asc d e).1 (colS_asc _).1 fun x => ((refE_asc d e).2 x).trans ((colS_asc _).2 x).symm
theorem refE_len : ∀ (d : Nat) (e : Ex), (refE d e).length ≤ (colE d e).length
  | 0, _ => Nat.zero_le _
  | d + 1, e => by
    have h := stepC_len (refE d) (colE d) (refE_len d) e.args (colH e)
    show (e.args.foldl (stepC (refE d)) (colH e)).length ≤ (colH e ++ e.args.flatMap (colE d)).length
    rw [List.length_append]
    exact h
theorem ownI_more {w : World} {base base' n : Nat} {v : Value} {xs : List Value} (h : w.ownsRow base 3 1 v n xs) (hb : base' ≤ base) : w.ownsRow base' 3 1 v n xs := by
  refine ⟨h.1, ?_⟩
  rcases h.2 with h0 | ⟨g, cap, cur, rfl, hbg, hr⟩
  · exact .inl h0
  · exact .inr ⟨g, cap, cur, rfl, Nat.le_trans hb hbg, hr⟩
theorem foldl_take {α : Type} (f : List Int → α → List Int) (es : List α) (a : List Int) (k : Nat) (y : α) (h : es[k]? = some y) : (es.take (k + 1)).foldl f a = f ((es.take k).foldl f a) y := by
  rw [List.take_add_one, h, List.foldl_append]
  rfl
set_option maxRecDepth 100000 in
set_option maxHeartbeats 6400000 in
theorem rColumns_any : ∀ (d : Nat) (e : Ex) (u : Value) (w : World) (L : Nat), RdE w L w.heap.size d u e.args → (colE d e).length ≤ 1099511627775 →
    Calls Tryz.prog 54 #[exV e u] w (RetIn w (refE d e))
  | 0, _, _, _, _, h, _ => h.elim
  | d + 1, e, u, w, L, h, hlen => by
    have IH := Lib.hid (rColumns_any d)
    obtain ⟨A, c, rfl, hl, hc⟩ := h
    have HC := Lib.hid hc
    have hln := hlen
    rw [show colE (d + 1) e = colH e ++ e.args.flatMap (colE d) from rfl, List.length_append] at hln
    have HLN := Lib.hid hln
    rw [show refE (d + 1) e = e.args.foldl (stepC (refE d)) (colH e) from rfl]
    have b1 := bel_mk w (.cells (exA e (.slice A e.args.length c)) 73)
    have b2 := bel_mk (w.alloc (.cells (exA e (.slice A e.args.length c)) 73)) (.cells #[] 3)
    have HB := Lib.hid (b1.trans (b2.mono b1.size))
    have HE := Lib.hid ((Own.new w 73 (exA e (.slice A e.args.length c))).alloc (.cells #[] 3))
    have hw0 := own_empty (w.alloc (.cells (exA e (.slice A e.args.length c)) 73))
    have hw1 := ownI_more hw0 (show w.heap.size + 1 ≤ _ from by rw [World.size_alloc]; exact Nat.le_refl _)
    simp only [World.size_alloc] at hw1
    have HW := Lib.hid hw1
    clear hc hln hlen b1 b2 hw0 hw1
    obtain ⟨op, n, ⟨k1, k2, s⟩, nm, es⟩ := e
    unfold exV exA at *
    dsimp only at *
    by_cases h2 : op = 2
    · subst h2
      rw [show colH ⟨2, n, (k1, k2, s), nm, es⟩ = [n] from rfl] at *
      have e0 := HE.out.cell 0
      have e1 := HE.out.cell 1
      have e6 := HE.out.cell 6
      have b2 := bel_mk ((w.alloc (.cells #[.int .i64 2, .int .i64 n, .int .i64 k1, .int .i64 k2, .string s, .string nm, .slice A es.length c] 73)).alloc (.cells #[] 3)) (.cells #[.int .i64 n] 3)
      have HR2 := Lib.hid (own_below HW.out b2)
      have HCU := Lib.hid (show (((w.alloc (.cells #[.int .i64 2, .int .i64 n, .int .i64 k1, .int .i64 k2, .string s, .string nm, .slice A es.length c] 73)).alloc (.cells #[] 3)).alloc (.cells #[.int .i64 n] 3)).cell? ⟨w.heap.size + 1 + 1, 0, none⟩ = some (.int .i64 n) from by have h := (Own.new ((w.alloc (.cells #[.int .i64 2, .int .i64 n, .int .i64 k1, .int .i64 k2, .string s, .string nm, .slice A es.length c] 73)).alloc (.cells #[] 3)) 3 #[.int .i64 n]).cell 0; simp only [World.size_alloc] at h; exact h)
      have HB2 := Lib.hid (HB.out.trans (b2.mono HB.out.size))
      have HE2 := Lib.hid (HE.out.alloc (.cells #[.int .i64 n] 3))
      clear b2
      go_enter Tryz.func54, Tryz.ntmps54
      go_wp2_with (at_builtin; refine append_i _ rfl _ _ rfl (w.heap.size + 1) _ [] rfl HR2.out (w.heap.size + 1 + 1) 1 n rfl HCU.out (by decide) (Nat.le_of_lt HE2.out.lt |> fun _ => by have := HB2.out.size; simp only [World.size_alloc]; omega) ?_; intro v3 w3 hR3 hb3)
      have HR0 := Lib.hid (show w3.ownsRow (w.heap.size + 1) 3 1 v3 ((es.take 0).foldl (stepC (refE d)) [n]).length (intsV ((es.take 0).foldl (stepC (refE d)) [n])) from hR3)
      have HE0 := Lib.hid (HE2.out.below hb3 (Nat.lt_succ_self _))
      have HB0 := Lib.hid (HB2.out.trans (hb3.mono (Nat.le_succ _)))
      clear hR3 hb3 HR2 HCU HB2 HE2 HW HE HB e0 e1 e6
      go_loopw [3, 4, 5, 6] (fun vb i _ _ wr => ∃ k : Nat, k ≤ es.length ∧ i = .int .i64 k ∧ Hid (wr.ownsRow (w.heap.size + 1) 3 1 vb ((es.take k).foldl (stepC (refE d)) [n]).length (intsV ((es.take k).foldl (stepC (refE d)) [n]))) ∧ Hid (Own wr w.heap.size 73 #[.int .i64 2, .int .i64 n, .int .i64 k1, .int .i64 k2, .string s, .string nm, .slice A es.length c]) ∧ Below w.heap.size w wr) (fun _ i _ _ _ => es.length - (intOf i).toNat)
      case atStart => exact ⟨0, Nat.zero_le _, rfl, HR0, HE0, HB0.out⟩
      case round =>
        clear HR0 HE0 HB0
        obtain ⟨k, hk, rfl, HR, HE, hbr⟩ := hrel
        have hbz := hbr.size
        have e6 := HE.out.cell 6
        by_cases hlt : k < es.length
        · have hki : (k : Int) < es.length := by omega
          obtain ⟨ad, x, rfl, _, hab, hxc, hxr⟩ := HC.out k _ (List.getElem?_eq_getElem hlt)
          have htk := foldl_take (stepC (refE d)) es [n] k _ (List.getElem?_eq_getElem hlt)
          have hfl := flat_take (colE d) es k _ (List.getElem?_eq_getElem hlt)
          have hacc := stepC_len (refE d) (colE d) (refE_len d) (es.take k) [n]
          have hsum : (es.flatMap (colE d)).length = ((es.take (k + 1)).flatMap (colE d)).length + ((es.drop (k + 1)).flatMap (colE d)).length := by rw [← List.length_append, ← List.flatMap_append, List.take_append_drop]
          have hLN := HLN.out
          generalize es[k] = y at *
          obtain ⟨A3, c3, rfl, hl3⟩ := hxr.slice
          obtain ⟨x0, x1, x2, x3, x4, x5, x6⟩ := hxc.below hbr (by rw [add_blk]; exact hab)
          rw [hfl, List.length_append] at hsum
          have hre := refE_len d y
          have HCL := Lib.hid (IH.out y (.slice A3 y.args.length c3) wr L (hxr.step hbr (Nat.le_refl _)) (by omega))
          generalize (es.take k).foldl (stepC (refE d)) [n] = acc at *
          have HTK := Lib.hid (show (es.take (k + 1)).foldl (stepC (refE d)) [n] = (refE d y).foldl insI acc from htk)
          have HAC := Lib.hid (show acc.length + (refE d y).length ≤ 1099511627775 by omega)
          generalize refE d y = ys at *
          clear hxc hxr htk hfl hacc hsum hLN hre
          try unfold exV at HCL
          go_wp2_with fail
          with_reducible refine HCL.out.mono ?_
          rintro e' w4 ⟨v4, rfl, hr4, hb4⟩
          have HR4 := Lib.hid (own_below HR.out hb4)
          have HE4 := Lib.hid (HE.out.below hb4 HE.out.lt)
          have hac := HAC.out
          have hrd := rdI_own hr4 (by omega)
          have HB4 := Lib.hid (hbr.trans (hb4.mono hbz))
          have hz4 : w.heap.size + 1 ≤ w4.heap.size := HE4.out.lt
          obtain ⟨A5, c5, rfl, _, hc5⟩ := hrd
          have HC5 := Lib.hid hc5
          clear x0 x1 x2 x3 x4 x5 x6 e6 HCL hr4 hb4 hc5 hac HR HE hbr
          go_wp2_with fail
          go_loopw [3, 6] (fun vb i wr => ∃ j : Nat, j ≤ ys.length ∧ i = .int .i64 j ∧ Hid (wr.ownsRow (w.heap.size + 1) 3 1 vb ((ys.take j).foldl insI acc).length (intsV ((ys.take j).foldl insI acc))) ∧ Below w4.heap.size w4 wr) (fun _ i _ => ys.length - (intOf i).toNat)
          case atStart => exact ⟨0, Nat.zero_le _, rfl, HR4, Below.refl _ _⟩
          case round =>
            clear HR4
            obtain ⟨j, hj, rfl, HR, hbr⟩ := hrel
            have hbz := hbr.size
            by_cases hlt2 : j < ys.length
            · have hji : (j : Int) < ys.length := by omega
              have hx := List.getElem?_eq_getElem hlt2
              obtain ⟨ad2, rfl, _, hab2, a0⟩ := HC5.out j _ hx
              have htk := foldl_take insI ys acc j _ hx
              have hfl := foldI_len (ys.take j) acc
              rw [List.length_take] at hfl
              generalize ys[j] = q at *
              have q1 := (hbr.cell (p := ad2.add j) (by rw [add_block]; exact hab2)).trans a0
              have hac := HAC.out
              generalize (ys.take j).foldl insI acc = bcc at *
              have hins := rInsert_any bcc q _ wr 0 (rdI_own HR.out (by omega)) (by omega)
              rw [← htk] at hins
              have HIN := Lib.hid hins
              clear hx a0 htk hfl hac hins
              go_wp2_with fail
              with_reducible refine HIN.out.mono ?_
              rintro e' w6 ⟨v6, rfl, hr6, hb6⟩
              have HR6 := Lib.hid (ownI_more hr6 (Nat.le_trans hz4 hbz))
              have HB6 := Lib.hid (hbr.trans (hb6.mono hbz))
              clear hr6 hb6 HIN HR hbr q1
              go_wp2
              go_roundw
              case rel => exact ⟨j + 1, by omega, by go_num, HR6, HB6.out⟩
              case measure => simp [intOf]; omega
            · have hji : ¬ (j : Int) < ys.length := by omega
              have hR := HR.out
              rw [List.take_of_length_le (by omega), ← HTK.out] at hR
              have HR6 := Lib.hid hR
              have HE6 := Lib.hid (HE4.out.below hbr HE4.out.lt)
              have HB6 := Lib.hid (HB4.out.trans (hbr.mono (Nat.le_of_lt (Nat.lt_of_lt_of_le (Nat.lt_succ_self _) hz4))))
              clear hR HR hbr
              go_wp2
              go_roundw
              case rel => exact ⟨k + 1, by omega, by go_num, HR6, HE6, HB6.out⟩
              case measure => simp [intOf]; omega
        · have hki : ¬ (k : Int) < es.length := by omega
          have hR := HR.out
          rw [List.take_of_length_le (by omega)] at hR
          have HF := Lib.hid (ownI_more hR (Nat.le_succ _))
          clear hR HR
          go_wp2
          go_ret
          exact ⟨_, rfl, HF.out, hbr⟩
    · rw [show colH ⟨op, n, (k1, k2, s), nm, es⟩ = [] from if_neg h2] at *
      have h2b : (op == 2) = false := by rw [beq_eq_false_iff_ne]; exact h2
      clear h2
      have e0 := HE.out.cell 0
      have e1 := HE.out.cell 1
      have e6 := HE.out.cell 6
      go_enter Tryz.func54, Tryz.ntmps54
      go_wp2_with fail
      have HR0 := Lib.hid (show ((w.alloc (.cells #[.int .i64 op, .int .i64 n, .int .i64 k1, .int .i64 k2, .string s, .string nm, .slice A es.length c] 73)).alloc (.cells #[] 3)).ownsRow (w.heap.size + 1) 3 1 (.slice (some ⟨w.heap.size + 1, 0, none⟩) 0 0) ((es.take 0).foldl (stepC (refE d)) []).length (intsV ((es.take 0).foldl (stepC (refE d)) [])) from HW.out)
      have HE0 := HE
      have HB0 := HB
      clear HW HE HB e0 e1 e6
      go_loopw [3, 4, 5, 6] (fun vb i _ _ wr => ∃ k : Nat, k ≤ es.length ∧ i = .int .i64 k ∧ Hid (wr.ownsRow (w.heap.size + 1) 3 1 vb ((es.take k).foldl (stepC (refE d)) []).length (intsV ((es.take k).foldl (stepC (refE d)) []))) ∧ Hid (Own wr w.heap.size 73 #[.int .i64 op, .int .i64 n, .int .i64 k1, .int .i64 k2, .string s, .string nm, .slice A es.length c]) ∧ Below w.heap.size w wr) (fun _ i _ _ _ => es.length - (intOf i).toNat)
      case atStart => exact ⟨0, Nat.zero_le _, rfl, HR0, HE0, HB0.out⟩
      case round =>
        clear HR0 HE0 HB0
        obtain ⟨k, hk, rfl, HR, HE, hbr⟩ := hrel
        have hbz := hbr.size
        have e6 := HE.out.cell 6
        by_cases hlt : k < es.length
        · have hki : (k : Int) < es.length := by omega
          obtain ⟨ad, x, rfl, _, hab, hxc, hxr⟩ := HC.out k _ (List.getElem?_eq_getElem hlt)
          have htk := foldl_take (stepC (refE d)) es [] k _ (List.getElem?_eq_getElem hlt)
          have hfl := flat_take (colE d) es k _ (List.getElem?_eq_getElem hlt)
          have hacc := stepC_len (refE d) (colE d) (refE_len d) (es.take k) []
          have hsum : (es.flatMap (colE d)).length = ((es.take (k + 1)).flatMap (colE d)).length + ((es.drop (k + 1)).flatMap (colE d)).length := by rw [← List.length_append, ← List.flatMap_append, List.take_append_drop]
          have hLN := HLN.out
          generalize es[k] = y at *
          obtain ⟨A3, c3, rfl, hl3⟩ := hxr.slice
          obtain ⟨x0, x1, x2, x3, x4, x5, x6⟩ := hxc.below hbr (by rw [add_blk]; exact hab)
          rw [hfl, List.length_append] at hsum
          have hre := refE_len d y
          have HCL := Lib.hid (IH.out y (.slice A3 y.args.length c3) wr L (hxr.step hbr (Nat.le_refl _)) (by omega))
          generalize (es.take k).foldl (stepC (refE d)) [] = acc at *
          have HTK := Lib.hid (show (es.take (k + 1)).foldl (stepC (refE d)) [] = (refE d y).foldl insI acc from htk)
          have HAC := Lib.hid (show acc.length + (refE d y).length ≤ 1099511627775 by omega)
          generalize refE d y = ys at *
          clear hxc hxr htk hfl hacc hsum hLN hre
          try unfold exV at HCL
          go_wp2_with fail
          with_reducible refine HCL.out.mono ?_
          rintro e' w4 ⟨v4, rfl, hr4, hb4⟩
          have HR4 := Lib.hid (own_below HR.out hb4)
          have HE4 := Lib.hid (HE.out.below hb4 HE.out.lt)
          have hac := HAC.out
          have hrd := rdI_own hr4 (by omega)
          have HB4 := Lib.hid (hbr.trans (hb4.mono hbz))
          have hz4 : w.heap.size + 1 ≤ w4.heap.size := HE4.out.lt
          obtain ⟨A5, c5, rfl, _, hc5⟩ := hrd
          have HC5 := Lib.hid hc5
          clear x0 x1 x2 x3 x4 x5 x6 e6 HCL hr4 hb4 hc5 hac HR HE hbr
          go_wp2_with fail
          go_loopw [3, 6] (fun vb i wr => ∃ j : Nat, j ≤ ys.length ∧ i = .int .i64 j ∧ Hid (wr.ownsRow (w.heap.size + 1) 3 1 vb ((ys.take j).foldl insI acc).length (intsV ((ys.take j).foldl insI acc))) ∧ Below w4.heap.size w4 wr) (fun _ i _ => ys.length - (intOf i).toNat)
          case atStart => exact ⟨0, Nat.zero_le _, rfl, HR4, Below.refl _ _⟩
          case round =>
            clear HR4
            obtain ⟨j, hj, rfl, HR, hbr⟩ := hrel
            have hbz := hbr.size
            by_cases hlt2 : j < ys.length
            · have hji : (j : Int) < ys.length := by omega
              have hx := List.getElem?_eq_getElem hlt2
              obtain ⟨ad2, rfl, _, hab2, a0⟩ := HC5.out j _ hx
              have htk := foldl_take insI ys acc j _ hx
              have hfl := foldI_len (ys.take j) acc
              rw [List.length_take] at hfl
              generalize ys[j] = q at *
              have q1 := (hbr.cell (p := ad2.add j) (by rw [add_block]; exact hab2)).trans a0
              have hac := HAC.out
              generalize (ys.take j).foldl insI acc = bcc at *
              have hins := rInsert_any bcc q _ wr 0 (rdI_own HR.out (by omega)) (by omega)
              rw [← htk] at hins
              have HIN := Lib.hid hins
              clear hx a0 htk hfl hac hins
              go_wp2_with fail
              with_reducible refine HIN.out.mono ?_
              rintro e' w6 ⟨v6, rfl, hr6, hb6⟩
              have HR6 := Lib.hid (ownI_more hr6 (Nat.le_trans hz4 hbz))
              have HB6 := Lib.hid (hbr.trans (hb6.mono hbz))
              clear hr6 hb6 HIN HR hbr q1
              go_wp2
              go_roundw
              case rel => exact ⟨j + 1, by omega, by go_num, HR6, HB6.out⟩
              case measure => simp [intOf]; omega
            · have hji : ¬ (j : Int) < ys.length := by omega
              have hR := HR.out
              rw [List.take_of_length_le (by omega), ← HTK.out] at hR
              have HR6 := Lib.hid hR
              have HE6 := Lib.hid (HE4.out.below hbr HE4.out.lt)
              have HB6 := Lib.hid (HB4.out.trans (hbr.mono (Nat.le_of_lt (Nat.lt_of_lt_of_le (Nat.lt_succ_self _) hz4))))
              clear hR HR hbr
              go_wp2
              go_roundw
              case rel => exact ⟨k + 1, by omega, by go_num, HR6, HE6, HB6.out⟩
              case measure => simp [intOf]; omega
        · have hki : ¬ (k : Int) < es.length := by omega
          have hR := HR.out
          rw [List.take_of_length_le (by omega)] at hR
          have HF := Lib.hid (ownI_more hR (Nat.le_succ _))
          clear hR HR
          go_wp2
          go_ret
          exact ⟨_, rfl, HF.out, hbr⟩
end Go.Proofs.YteihjneeiojgaaaGreat
