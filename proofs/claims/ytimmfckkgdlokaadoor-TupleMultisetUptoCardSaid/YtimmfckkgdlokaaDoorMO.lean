import Derived.Test.YtimmfckkgdlokaaDoorMT
import Derived.WalkKit
import Derived.WalkSpells
import Derived.WalkLawsBesides
import Derived.Deep.QuietTactic
import Derived.BigQuiet
import Derived.Handy
import Derived.Lib.Hide
import Derived.Test.YtimmfckkgdlokaaDoorMW
import Derived.Laws.OwnMore
import Derived.Deep.Slices
/-
  The reference's before and merged: what they answer. Conditions: lengths.
-/
namespace Go.Proofs.YtimmfckkgdlokaaDoor
set_option maxRecDepth 100000
open Go.RowKit

theorem colO_sign (i : Int) (d : Bool) (p q : List Vl) : (colO (i, d) p q = 0 ↔ cmpP (atP p i) (atP q i) = 0) ∧ (cmpP (atP p i) (atP q i) ≠ 0 → (decide (cmpP (atP p i) (atP q i) < 0) != d) = decide (colO (i, d) p q < 0)) := by
  unfold colO
  cases d
  · exact ⟨Iff.rfl, fun _ => by simp⟩
  · have h := cmpP_neg (atP p i) (atP q i)
    rw [if_pos rfl]
    dsimp only
    rw [h]
    refine ⟨by omega, fun h0 => ?_⟩
    by_cases h1 : cmpP (atP p i) (atP q i) < 0
    · rw [decide_eq_true h1, decide_eq_false (by omega)]; rfl
    · rw [decide_eq_false h1, decide_eq_true (by omega)]; rfl
set_option maxRecDepth 100000 in
set_option maxHeartbeats 6400000 in
theorem rBefore_any (u v vo : Value) (p q : List Vl) (o : List (Int × Bool)) (w : World) (L : Nat) (hu : RdN w 0 w.heap.size u p) (hv : RdN w 0 w.heap.size v q) (ho : RdO w L w.heap.size vo o) :
    Calls Tryd.prog 52 #[u, v, vo] w fun e w' => e = .returned (.bool (decide (cmpO o p q < 0))) ∧ Below w.heap.size w w' := by
  have HU := Lib.hid (fun i W (h : Below w.heap.size w W) => rAt_any u p i W 0 (hu.step h (Nat.le_refl _)).1)
  have HV := Lib.hid (fun i W (h : Below w.heap.size w W) => rAt_any v q i W 0 (hv.step h (Nat.le_refl _)).1)
  have HT := Lib.hid (fun W (h : Below w.heap.size w W) => rCompare8_any u v p q W 0 0 (hu.step h (Nat.le_refl _)).1 (hv.step h (Nat.le_refl _)).1)
  have HC := Lib.hid (fun x y W => rCmp_any x y W)
  obtain ⟨⟨A, c, rfl, q1⟩, q2⟩ := hu
  obtain ⟨⟨A2, c2, rfl, q3⟩, q4⟩ := hv
  obtain ⟨Ao, co, rfl, hlo, hco⟩ := ho
  have HCO := Lib.hid hco
  clear q1 q2 q3 q4 hco
  go_enter Tryd.func52, Tryd.ntmps52
  go_wp2
  go_loopw [7] (fun i wr => ∃ k : Nat, k ≤ o.length ∧ i = .int .i64 k ∧ Hid (cmpO o p q = cmpO (o.drop k) p q) ∧ Below w.heap.size w wr) (fun i _ => o.length - (intOf i).toNat)
  case atStart => exact ⟨0, Nat.zero_le _, rfl, Lib.hid rfl, Below.refl _ _⟩
  case round =>
    obtain ⟨k, hk, rfl, HR, hbr⟩ := hrel
    have hbz := hbr.size
    by_cases hlt : k < o.length
    · have hki : (k : Int) < o.length := by omega
      obtain ⟨ad, rfl, _, hab, c0, c1⟩ := HCO.out k _ (List.getElem?_eq_getElem hlt)
      have d0 := (hbr.cell (p := ad.add (k * 2)) (by rw [add_block]; exact hab)).trans c0
      have d1 := (hbr.cell (p := ⟨(ad.add (k * 2)).block, (ad.add (k * 2)).off + 1, none⟩) (by show (ad.add (k * 2)).block < _; rw [add_block]; exact hab)).trans c1
      have hcd := cmpO_drop o p q k _ (List.getElem?_eq_getElem hlt)
      rw [← HR.out] at hcd
      generalize o[k] = x at *
      obtain ⟨i, d⟩ := x
      dsimp only at d0 d1
      obtain ⟨hs1, hs2⟩ := colO_sign i d p q
      have x0 : ∀ r : After wr, r.w.cell? (ad.add (k * 2)) = some (.int .i64 i) := after_cell (by rw [add_block]; omega) d0
      have hx : ∀ r : After wr, Calls Tryd.prog 70 #[.slice A p.length c, .int .i64 i] r.w fun e w' => e = .returned (valV (atP p i)) ∧ Below r.w.heap.size r.w w' := fun r => (HU.out i r.w (hbr.trans (r.h.mono hbz))).mono fun _ _ h => ⟨h.1, h.2.1⟩
      have hy : ∀ r : After wr, Calls Tryd.prog 70 #[.slice A2 q.length c2, .int .i64 i] r.w fun e w' => e = .returned (valV (atP q i)) ∧ Below r.w.heap.size r.w w' := fun r => (HV.out i r.w (hbr.trans (r.h.mono hbz))).mono fun _ _ h => ⟨h.1, h.2.1⟩
      have HX := Lib.hid hx
      have HY := Lib.hid hy
      have HCX := Lib.hid (fun W => HC.out (atP p i) (atP q i) W)
      generalize atP p i = xv at *
      generalize atP q i = yv at *
      generalize cmpP xv yv = r at *
      have HD1 := Lib.hid d1
      clear c0 c1 hx hy d0 d1
      by_cases hr : r = 0
      · have HF := Lib.hid (hcd.trans (if_pos (hs1.2 hr)))
        have e1 : (r != 0) = false := by simp [hr]
        clear hcd hr hs1 hs2
        go_wp2_with fail
        (refine wp_region_after (by kernel_rfl) (by kernel_rfl) ?_; (repeat (go_big_quiet_step (first | (go_at_call 70; first | with_reducible exact calls_after (HX.out _) | with_reducible exact calls_after (HY.out _)) | (go_at_call 33; exact calls_after (HCX.out _))))); refine wpQuiet_nil ?_; intro wq hw0; obtain ⟨⟨wq0, hbq⟩, hw1⟩ := hw0; subst hw1; (try dsimp only))
        have HB := Lib.hid (hbr.trans (hbq.mono hbz))
        clear x0
        go_wp2
        go_roundw
        case rel => exact ⟨k + 1, by omega, by go_num, HF, HB.out⟩
        case measure => simp [intOf]; omega
      · have hF := hcd.trans (if_neg (fun h => hr (hs1.1 h)))
        have HF := Lib.hid (show (decide (r < 0) != d) = decide (cmpO o p q < 0) by rw [hF]; exact hs2 hr)
        have e1 : (r != 0) = true := by simp [hr]
        clear hcd hr hs1 hs2 hF
        go_wp2_with fail
        (refine wp_region_after (by kernel_rfl) (by kernel_rfl) ?_; (repeat (go_big_quiet_step (first | (go_at_call 70; first | with_reducible exact calls_after (HX.out _) | with_reducible exact calls_after (HY.out _)) | (go_at_call 33; exact calls_after (HCX.out _))))); refine wpQuiet_nil ?_; intro wq hw0; obtain ⟨⟨wq0, hbq⟩, hw1⟩ := hw0; subst hw1; (try dsimp only))
        have HB := Lib.hid (hbr.trans (hbq.mono hbz))
        have d2 := (hbq.cell (p := ⟨(ad.add (k * 2)).block, (ad.add (k * 2)).off + 1, none⟩) (by show (ad.add (k * 2)).block < _; rw [add_block]; omega)).trans HD1.out
        clear x0
        go_wp2
        go_ret
        exact ⟨by rw [← HF.out]; rfl, HB.out⟩
    · have hki : ¬ (k : Int) < o.length := by omega
      have HF := Lib.hid (show cmpO o p q = cmpR p q by rw [HR.out, List.drop_eq_nil_of_le (by omega)]; rfl)
      have HTW := Lib.hid (HT.out wr hbr)
      clear HR HU HV HT HC
      go_wp2_with fail
      with_reducible refine HTW.out.mono ?_
      rintro e w1 ⟨rfl, hb1⟩
      go_wp2
      go_ret
      exact ⟨by rw [HF.out]; rfl, hbr.trans (hb1.mono hbz)⟩
/-- The row vb is the call's own and holds slices that could be read at its beginning. -/
def RowO (w wr : World) (vb : Value) (ms : List (List Vl)) : Prop :=
  ∃ vs : List Value, wr.ownsRow w.heap.size 22 1 vb ms.length vs ∧ ∀ (k : Nat) (m : List Vl), ms[k]? = some m → ∃ u, vs[k]? = some u ∧ RdN w 0 w.heap.size u m
theorem RowO.step {w w1 w2 : World} {vb : Value} {ms : List (List Vl)} (h : RowO w w1 vb ms) (hb : Below w1.heap.size w1 w2) : RowO w w2 vb ms := by
  obtain ⟨vs, h1, h2⟩ := h
  exact ⟨vs, own_below h1 hb, h2⟩
theorem RowO.lit (w w1 : World) (hz : w.heap.size ≤ w1.heap.size) : RowO w (w1.alloc (.cells #[] 22)) (.slice (some ⟨w1.heap.size, 0, none⟩) 0 0) [] :=
  ⟨[], ⟨rfl, .inr ⟨w1.heap.size, 0, #[], rfl, hz, heap_alloc_new w1 _, Nat.le_refl _, Nat.zero_le _, rfl, rfl⟩⟩, fun k m h => by simp at h⟩
theorem RowO.rd {w wr : World} {vb : Value} {ms : List (List Vl)} (h : RowO w wr vb ms) (hb : Below w.heap.size w wr) (hl : ms.length ≤ 9223372036854775807) : RdR wr w.heap.size wr.heap.size vb ms ∧ ∀ n c, vb = .slice none n c → c = 0 := by
  obtain ⟨vs, hown, h2⟩ := h
  have hown2 := hown
  obtain ⟨hl2, h3 | ⟨g, c, cs, rfl, hbg, _⟩⟩ := hown
  · obtain ⟨rfl, h0⟩ := h3
    have hm : ms = [] := by
      cases ms with
      | nil => rfl
      | cons m t => simp at h0
    subst hm
    exact ⟨⟨none, 0, rfl, by simp, fun k m h => by simp at h⟩, fun n c e => by injection e with _ _ e3; exact e3.symm⟩
  · refine ⟨⟨some ⟨g, 0, none⟩, c, rfl, hl, fun k m hk => ?_⟩, fun n c e => by cases e⟩
    obtain ⟨u, hu, hr⟩ := h2 k m hk
    exact ⟨⟨g, 0, none⟩, u, rfl, hbg, (hown2.lt g rfl).2, World.ownsRow.cells hown2 rfl k u hu, (hr.step hb (Nat.le_refl _)).low (Nat.zero_le _)⟩
theorem append_r {ops : Array Oper} {rest : List Oper} {o : Oper} {a : Act} {Q : Exit → Act → World → Prop} (W : World) (hgd : o.guard = none) (s x : Operand)
    (ho : o.op = .call { callee := .builtin .append, args := #[s, x], argTypes := #[28, 28] }) (w : World) (vb : Value) (ms : List (List Vl)) (hs : a.eval s = vb)
    (hR : RowO w W vb ms) (h0 c : Nat) (u : Value) (m : List Vl) (hx : a.eval x = .slice (some ⟨h0, 0, none⟩) 1 c) (hcell : W.cell? ⟨h0, 0, none⟩ = some u) (hu : RdN w 0 w.heap.size u m)
    (hl : ms.length ≤ 1099511627776) (hbase : w.heap.size ≤ W.heap.size)
    (h : ∀ v' w', RowO w w' v' (ms ++ [m]) → Below w.heap.size W w' → wpList Tryd.prog ops Q rest (a.put o.dst v') w') :
    wpList Tryd.prog ops Q (o :: rest) a W := by
  obtain ⟨vs, hown, hel⟩ := hR
  obtain ⟨i0, hi, hz0, hz1, hz2⟩ := info_partsB infoR
  have hsu : ∃ A n c', u = .slice A n c' := by obtain ⟨⟨A, c', rfl, _⟩, _⟩ := hu; exact ⟨_, _, _, rfl⟩
  refine wpList_append_own W hgd s x 28 ho w.heap.size 22 i0 (.slice none 0 0) 1 24 Tryd.underlying28 hi hz0 hz1 hz2 rfl (by decide) vb ms.length vs hs hown ⟨h0, 0, none⟩ 1 c [u] hx rfl
    ?_ ?_ (by unfold maxLen; omega) (by omega) hbase ?_
  · intro j v hj
    have hj0 : j = 0 := by have := (List.getElem?_eq_some_iff.1 hj).1; simp at this; omega
    subst hj0
    have hv : u = v := by simpa using hj
    subst hv
    exact hcell
  · intro v hv
    obtain ⟨A, n, c', rfl⟩ := hsu
    simp at hv
    subst hv
    rfl
  · intro v' w' h1 h2 _
    have hvl : vs.length = ms.length := by have := hown.1; omega
    refine h v' w' ⟨vs ++ [u], by rw [List.length_append]; exact h1, fun k p hk => ?_⟩ ((Below.refl _ _).grown h2 hbase fun k hk => (hown.lt k hk).1)
    by_cases hk1 : k < ms.length
    · rw [List.getElem?_append_left hk1] at hk
      obtain ⟨y, h5, h6⟩ := hel k p hk
      exact ⟨y, by rw [List.getElem?_append_left (by omega)]; exact h5, h6⟩
    · have hk2 : k = ms.length := by have := (List.getElem?_eq_some_iff.1 hk).1; simp at this; omega
      subst hk2
      have hp : m = p := by simpa using hk
      subst hp
      exact ⟨u, by rw [← hvl]; simp, hu⟩
end Go.Proofs.YtimmfckkgdlokaaDoor
/-
  The reference's merged: what it answers. Conditions: lengths.
-/
namespace Go.Proofs.YtimmfckkgdlokaaDoor
set_option maxRecDepth 100000
open Go.RowKit

set_option maxRecDepth 100000 in
set_option maxHeartbeats 12800000 in
theorem rMerged_any (u v vo : Value) (xs ys : List (List Vl)) (o : List (Int × Bool)) (w : World) (L : Nat) (hu : RdR w 0 w.heap.size u xs) (hv : RdR w 0 w.heap.size v ys) (ho : RdO w L w.heap.size vo o) (hl : xs.length + ys.length ≤ 1099511627776) :
    Calls Tryd.prog 37 #[u, v, vo] w (RetR w (xs.merge ys (leO o))) := by
  have HBF := Lib.hid (fun x y p q W (h : Below w.heap.size w W) (hx : RdN w 0 w.heap.size x p) (hy : RdN w 0 w.heap.size y q) => rBefore_any x y vo p q o W L (hx.step h (Nat.le_refl _)) (hy.step h (Nat.le_refl _)) (ho.step h (Nat.le_refl _)))
  obtain ⟨A, c, rfl, hl1, hc1⟩ := hu
  obtain ⟨A2, c2, rfl, hl2, hc2⟩ := hv
  obtain ⟨Ao, co, rfl, q1⟩ := ho
  have HC := Lib.hid hc1
  have HC2 := Lib.hid hc2
  have HL := Lib.hid hl
  have R0 := Lib.hid (RowO.lit w w (Nat.le_refl _))
  have B0 := Lib.hid (bel_mark w (.cells #[] 22))
  have hla : xs.length ≤ 1099511627776 := by omega
  have hlb : ys.length ≤ 1099511627776 := by omega
  clear hc1 hc2 q1 hl
  go_enter Tryd.func37, Tryd.ntmps37
  go_wp2
  go_loopw [7, 8, 9] (fun vb i j wr => ∃ (k m : Nat) (ms : List (List Vl)), k ≤ xs.length ∧ m ≤ ys.length ∧ i = .int .i64 k ∧ j = .int .i64 m ∧ Hid (ms.length = k + m) ∧ Hid (RowO w wr vb ms) ∧ Hid (xs.merge ys (leO o) = ms ++ (xs.drop k).merge (ys.drop m) (leO o)) ∧ Below w.heap.size w wr) (fun _ i j _ => (xs.length - (intOf i).toNat) + (ys.length - (intOf j).toNat))
  case atStart => exact ⟨0, 0, [], Nat.zero_le _, Nat.zero_le _, rfl, rfl, Lib.hid rfl, R0, Lib.hid rfl, B0.out⟩
  case round =>
    obtain ⟨k, m, ms, hk, hm, rfl, rfl, HML, HR, HM, hbr⟩ := hrel
    have hbz := hbr.size
    by_cases hlt : k < xs.length
    · have hki : (k : Int) < xs.length := by omega
      have eki : ((k : Int) == (xs.length : Int)) = false := by simp; omega
      obtain ⟨ad, ua, rfl, _, hab, c0, hra⟩ := HC.out k _ (List.getElem?_eq_getElem hlt)
      have d0 := (hbr.cell (p := ad.add k) (by rw [add_block]; exact hab)).trans c0
      have HGA := Lib.hid (List.getElem?_eq_getElem hlt)
      generalize xs[k] = ra at *
      by_cases hlt2 : m < ys.length
      · have hmi : (m : Int) < ys.length := by omega
        obtain ⟨ad2, ub, rfl, _, hab2, b0, hrb⟩ := HC2.out m _ (List.getElem?_eq_getElem hlt2)
        have f0 := (hbr.cell (p := ad2.add m) (by rw [add_block]; exact hab2)).trans b0
        have HGB := Lib.hid (List.getElem?_eq_getElem hlt2)
        generalize ys[m] = rb at *
        have HRA := Lib.hid hra
        have HRB := Lib.hid hrb
        obtain ⟨⟨A3, c3, rfl, q1⟩, q2⟩ := hra
        obtain ⟨⟨A4, c4, rfl, q3⟩, q4⟩ := hrb
        have x0 : ∀ r : After wr, r.w.cell? (ad.add k) = some (.slice A3 ra.length c3) := after_cell (by rw [add_block]; omega) d0
        have x1 : ∀ r : After wr, r.w.cell? (ad2.add m) = some (.slice A4 rb.length c4) := after_cell (by rw [add_block]; omega) f0
        have HF := Lib.hid (fun r : After wr => HBF.out _ _ _ _ r.w (hbr.trans (r.h.mono hbz)) HRB.out HRA.out)
        have D0 := Lib.hid d0
        have F0 := Lib.hid f0
        clear q1 q2 q3 q4 c0 b0 d0 f0
        by_cases hcm : cmpO o rb ra < 0
        · have HS := Lib.hid (show xs.merge ys (leO o) = (ms ++ [rb]) ++ (xs.drop k).merge (ys.drop (m + 1)) (leO o) by
            rw [HM.out, merge_drop_b k m rb HGB.out (.inr ⟨ra, HGA.out, hcm⟩), List.append_assoc]; rfl)
          rw [decide_eq_true hcm] at HF
          clear hcm
          go_wp2_with fail
          (refine wp_region_after (by kernel_rfl) (by kernel_rfl) ?_; (repeat (go_big_quiet_step ((go_at_call 52; exact calls_after (HF.out _))))); refine wpQuiet_nil ?_; intro wq hw0; obtain ⟨⟨wq0, hbq⟩, hw1⟩ := hw0; subst hw1; (try dsimp only))
          clear x0 x1
          have zq := hbq.size
          have B1 := hbr.trans (hbq.mono hbz)
          have z1 := B1.size
          have HB1 := Lib.hid B1
          have f1 := (hbq.cell (p := ad2.add m) (by rw [add_block]; omega)).trans F0.out
          have b2 := bel_mark wq (.cells #[.slice A4 rb.length c4] 22)
          have HR2 := Lib.hid ((HR.out.step hbq).step b2)
          have HCU := Lib.hid (show (wq.alloc (.cells #[.slice A4 rb.length c4] 22)).cell? ⟨wq.heap.size, 0, none⟩ = some (.slice A4 rb.length c4) from (Own.new wq 22 #[.slice A4 rb.length c4]).cell 0)
          have HB2 := Lib.hid (B1.trans (b2.mono z1))
          have hml : ms.length ≤ 1099511627776 := by have := HML.out; have := HL.out; omega
          have HMS := Lib.hid hml
          have HZ2 := Lib.hid HB2.out.size
          clear b2 B1 hml
          go_wp2_with (at_builtin; refine append_r _ rfl _ _ rfl w _ ms rfl HR2.out wq.heap.size 1 _ rb rfl HCU.out HRB.out HMS.out HZ2.out ?_; intro v3 w3 hR3 hb3)
          have B3 := HB2.out.trans hb3
          go_roundw
          case rel => exact ⟨k, m + 1, ms ++ [rb], hk, by omega, by go_num, by go_num, Lib.hid (by rw [List.length_append, HML.out]; simp; omega), Lib.hid hR3, HS, B3⟩
          case measure => simp [intOf]; omega
        · have HS := Lib.hid (show xs.merge ys (leO o) = (ms ++ [ra]) ++ (xs.drop (k + 1)).merge (ys.drop m) (leO o) by
            rw [HM.out, merge_drop_a k m ra HGA.out (.inr ⟨rb, HGB.out, hcm⟩), List.append_assoc]; rfl)
          rw [decide_eq_false hcm] at HF
          clear hcm
          go_wp2_with fail
          (refine wp_region_after (by kernel_rfl) (by kernel_rfl) ?_; (repeat (go_big_quiet_step ((go_at_call 52; exact calls_after (HF.out _))))); refine wpQuiet_nil ?_; intro wq hw0; obtain ⟨⟨wq0, hbq⟩, hw1⟩ := hw0; subst hw1; (try dsimp only))
          clear x0 x1
          have zq := hbq.size
          have B1 := hbr.trans (hbq.mono hbz)
          have z1 := B1.size
          have HB1 := Lib.hid B1
          have f1 := (hbq.cell (p := ad.add k) (by rw [add_block]; omega)).trans D0.out
          have b2 := bel_mark wq (.cells #[.slice A3 ra.length c3] 22)
          have HR2 := Lib.hid ((HR.out.step hbq).step b2)
          have HCU := Lib.hid (show (wq.alloc (.cells #[.slice A3 ra.length c3] 22)).cell? ⟨wq.heap.size, 0, none⟩ = some (.slice A3 ra.length c3) from (Own.new wq 22 #[.slice A3 ra.length c3]).cell 0)
          have HB2 := Lib.hid (B1.trans (b2.mono z1))
          have hml : ms.length ≤ 1099511627776 := by have := HML.out; have := HL.out; omega
          have HMS := Lib.hid hml
          have HZ2 := Lib.hid HB2.out.size
          clear b2 B1 hml
          go_wp2_with (at_builtin; refine append_r _ rfl _ _ rfl w _ ms rfl HR2.out wq.heap.size 1 _ ra rfl HCU.out HRA.out HMS.out HZ2.out ?_; intro v3 w3 hR3 hb3)
          have B3 := HB2.out.trans hb3
          go_roundw
          case rel => exact ⟨k + 1, m, ms ++ [ra], by omega, hm, by go_num, by go_num, Lib.hid (by rw [List.length_append, HML.out]; simp; omega), Lib.hid hR3, HS, B3⟩
          case measure => simp [intOf]; omega
      · have hmi : ¬ (m : Int) < ys.length := by omega
        have HRA := Lib.hid hra
        obtain ⟨⟨A3, c3, rfl, q1⟩, q2⟩ := hra
        have HS := Lib.hid (show xs.merge ys (leO o) = (ms ++ [ra]) ++ (xs.drop (k + 1)).merge (ys.drop m) (leO o) by
          rw [HM.out, merge_drop_a k m ra HGA.out (.inl (by omega)), List.append_assoc]; rfl)
        have D0 := Lib.hid d0
        clear q1 q2 c0 d0
        go_wp2_with fail
        (refine wp_region_after (by kernel_rfl) (by kernel_rfl) ?_; (repeat (go_big_quiet_step (fail))); refine wpQuiet_nil ?_; intro wq hw0; obtain ⟨⟨wq0, hbq⟩, hw1⟩ := hw0; subst hw1; (try dsimp only))
        have zq := hbq.size
        have B1 := hbr.trans (hbq.mono hbz)
        have z1 := B1.size
        have HB1 := Lib.hid B1
        have f1 := (hbq.cell (p := ad.add k) (by rw [add_block]; omega)).trans D0.out
        have b2 := bel_mark wq (.cells #[.slice A3 ra.length c3] 22)
        have HR2 := Lib.hid ((HR.out.step hbq).step b2)
        have HCU := Lib.hid (show (wq.alloc (.cells #[.slice A3 ra.length c3] 22)).cell? ⟨wq.heap.size, 0, none⟩ = some (.slice A3 ra.length c3) from (Own.new wq 22 #[.slice A3 ra.length c3]).cell 0)
        have HB2 := Lib.hid (B1.trans (b2.mono z1))
        have hml : ms.length ≤ 1099511627776 := by have := HML.out; have := HL.out; omega
        have HMS := Lib.hid hml
        have HZ2 := Lib.hid HB2.out.size
        clear b2 B1 hml
        go_wp2_with (at_builtin; refine append_r _ rfl _ _ rfl w _ ms rfl HR2.out wq.heap.size 1 _ ra rfl HCU.out HRA.out HMS.out HZ2.out ?_; intro v3 w3 hR3 hb3)
        have B3 := HB2.out.trans hb3
        go_roundw
        case rel => exact ⟨k + 1, m, ms ++ [ra], by omega, hm, by go_num, by go_num, Lib.hid (by rw [List.length_append, HML.out]; simp; omega), Lib.hid hR3, HS, B3⟩
        case measure => simp [intOf]; omega
    · have hki : ¬ (k : Int) < xs.length := by omega
      have hke : k = xs.length := by omega
      have eki : ((k : Int) == (xs.length : Int)) = true := by simp; omega
      by_cases hlt2 : m < ys.length
      · have hmi : (m : Int) < ys.length := by omega
        obtain ⟨ad2, ub, rfl, _, hab2, b0, hrb⟩ := HC2.out m _ (List.getElem?_eq_getElem hlt2)
        have f0 := (hbr.cell (p := ad2.add m) (by rw [add_block]; exact hab2)).trans b0
        have HGB := Lib.hid (List.getElem?_eq_getElem hlt2)
        generalize ys[m] = rb at *
        have HRB := Lib.hid hrb
        obtain ⟨⟨A4, c4, rfl, q3⟩, q4⟩ := hrb
        have HS := Lib.hid (show xs.merge ys (leO o) = (ms ++ [rb]) ++ (xs.drop k).merge (ys.drop (m + 1)) (leO o) by
          rw [HM.out, merge_drop_b k m rb HGB.out (.inl (by omega)), List.append_assoc]; rfl)
        have F0 := Lib.hid f0
        clear q3 q4 b0 f0 hke
        go_wp2_with fail
        (refine wp_region_after (by kernel_rfl) (by kernel_rfl) ?_; (repeat (go_big_quiet_step (fail))); refine wpQuiet_nil ?_; intro wq hw0; obtain ⟨⟨wq0, hbq⟩, hw1⟩ := hw0; subst hw1; (try dsimp only))
        have zq := hbq.size
        have B1 := hbr.trans (hbq.mono hbz)
        have z1 := B1.size
        have HB1 := Lib.hid B1
        have f1 := (hbq.cell (p := ad2.add m) (by rw [add_block]; omega)).trans F0.out
        have b2 := bel_mark wq (.cells #[.slice A4 rb.length c4] 22)
        have HR2 := Lib.hid ((HR.out.step hbq).step b2)
        have HCU := Lib.hid (show (wq.alloc (.cells #[.slice A4 rb.length c4] 22)).cell? ⟨wq.heap.size, 0, none⟩ = some (.slice A4 rb.length c4) from (Own.new wq 22 #[.slice A4 rb.length c4]).cell 0)
        have HB2 := Lib.hid (B1.trans (b2.mono z1))
        have hml : ms.length ≤ 1099511627776 := by have := HML.out; have := HL.out; omega
        have HMS := Lib.hid hml
        have HZ2 := Lib.hid HB2.out.size
        clear b2 B1 hml
        go_wp2_with (at_builtin; refine append_r _ rfl _ _ rfl w _ ms rfl HR2.out wq.heap.size 1 _ rb rfl HCU.out HRB.out HMS.out HZ2.out ?_; intro v3 w3 hR3 hb3)
        have B3 := HB2.out.trans hb3
        go_roundw
        case rel => exact ⟨k, m + 1, ms ++ [rb], hk, by omega, by go_num, by go_num, Lib.hid (by rw [List.length_append, HML.out]; simp; omega), Lib.hid hR3, HS, B3⟩
        case measure => simp [intOf]; omega
      · have hmi : ¬ (m : Int) < ys.length := by omega
        have HE := Lib.hid (show xs.merge ys (leO o) = ms by
          rw [HM.out, List.drop_eq_nil_of_le (by omega), List.drop_eq_nil_of_le (by omega)]; simp)
        have HRR := Lib.hid (HR.out.rd hbr (by have := HML.out; have := HL.out; omega))
        clear hke
        go_wp2
        go_ret
        rw [HE.out]
        exact ⟨_, rfl, HRR.out.1, HRR.out.2, hbr⟩
end Go.Proofs.YtimmfckkgdlokaaDoor
/-
  The reference's Order, Sort, List: what they answer. Conditions: lengths. (Written by mkTuOr.py.)
-/
namespace Go.Proofs.YtimmfckkgdlokaaDoor
set_option maxRecDepth 100000
open Go.RowKit

theorem addZ0 (ad : Addr) : ad.add 0 = ad := by unfold Addr.add; simp
def rowsO (L : Nat) (rs : List (List Vl)) : Fact := ⟨fun v W => RdR W L W.heap.size v rs ∧ ∀ n c, v = .slice none n c → c = 0, fun _ _ _ h hb => ⟨h.1.step hb (Nat.le_refl _), h.2⟩⟩
theorem RdR.take {w : World} {L B : Nat} {A : Option Addr} {n c : Nat} {rs : List (List Vl)} (h : RdR w L B (.slice A n c) rs) (m : Nat) (hm : m ≤ rs.length) : RdR w L B (.slice A m c) (rs.take m) := by
  obtain ⟨A', c', e, hl, hc⟩ := h
  injection e with e1 e2 e3
  subst e1 e3
  have hlt : (rs.take m).length = m := by rw [List.length_take]; omega
  refine ⟨A, c, by rw [hlt], by omega, fun k r hk => ?_⟩
  have hkm : k < m := by have := (List.getElem?_eq_some_iff.1 hk).1; omega
  rw [List.getElem?_take, if_pos hkm] at hk
  exact hc k r hk
theorem RdR.drop {w : World} {L B : Nat} {ad : Addr} {n c : Nat} {rs : List (List Vl)} (h : RdR w L B (.slice (some ad) n c) rs) (m : Nat) (_ : m ≤ rs.length) : RdR w L B (.slice (some (ad.add m)) (rs.length - m) (c - m)) (rs.drop m) := by
  obtain ⟨A', c', e, hl, hc⟩ := h
  injection e with e1 e2 e3
  subst e1 e3
  refine ⟨some (ad.add m), c - m, by rw [List.length_drop], by rw [List.length_drop]; omega, fun k r hk => ?_⟩
  rw [List.getElem?_drop] at hk
  obtain ⟨ad', u, e, h0, h1, h2, h3⟩ := hc (m + k) r hk
  injection e with e
  subst e
  exact ⟨ad.add m, u, rfl, by rw [add_block]; exact h0, by rw [add_block]; exact h1, by rw [add_add]; exact h2, h3⟩
theorem run_toR (W : World) (ad : Addr) (N c m : Nat) (hm : m ≤ c) :
    (Instr.slice 28 (.slice (some ad) N c) none (some (.int .i64 (m : Nat))) none).run Tryd.prog W = .ok (.slice (some ad) m c) W := by
  have hs := run_slice_h (P := Tryd.prog) (w := W) 28 (some ad) N c Tryd.underlying28 .i64 (m : Nat) (by omega) (by omega)
  rw [hs, show Tryd.prog.elem 28 = 22 by kernel_rfl, Tryd.sizeOf22]
  simp only [sliced, Result.andThen]
  rw [show (m : Int).toNat = m by omega, Nat.zero_mul]
  simp [addZ0]
theorem run_fromR (W : World) (ad : Addr) (N c m : Nat) (hm : m ≤ N) (hc : c ≠ m) :
    (Instr.slice 28 (.slice (some ad) N c) (some (.int .i64 (m : Nat))) none none).run Tryd.prog W = .ok (.slice (some (ad.add m)) (N - m) (c - m)) W := by
  have hs := run_slice_l (P := Tryd.prog) (w := W) 28 (some ad) N c Tryd.underlying28 .i64 (m : Nat) (by omega) (by omega)
  rw [hs, show Tryd.prog.elem 28 = 22 by kernel_rfl, Tryd.sizeOf22]
  simp only [sliced, Result.andThen]
  rw [show (m : Int).toNat = m by omega, Nat.mul_one, if_neg hc]
  rfl
theorem lit_row1 (w w0 : World) (hz : w0.heap.size ≤ w.heap.size) (u : Value) (r : List Vl) (hu : RdN w 0 w.heap.size u r) :
    RdR (w.alloc (.cells #[u] 22)) w0.heap.size (w.alloc (.cells #[u] 22)).heap.size (.slice (some ⟨w.heap.size, 0, none⟩) 1 1) [r] := by
  have o := Own.new w 22 #[u]
  refine ⟨_, _, rfl, by simp, fun k r' hk => ?_⟩
  have hk0 : k = 0 := by have := (List.getElem?_eq_some_iff.1 hk).1; simp at this; exact this
  subst hk0
  injection hk with hk
  subst hk
  exact ⟨⟨w.heap.size, 0, none⟩, u, rfl, hz, o.lt, by rw [cell_add_k]; exact o.cell 0, hu.step (bel_mark w _) (Nat.le_refl _)⟩
theorem sortO_nil (o : List (Int × Bool)) : sortO o [] = [] := (sortO_of o [] [] (List.Perm.refl _) List.Pairwise.nil).symm
theorem sortO_one (o : List (Int × Bool)) (r : List Vl) : sortO o [r] = [r] := (sortO_of o [r] [r] (List.Perm.refl _) (List.pairwise_singleton _ _)).symm
set_option maxRecDepth 100000 in
set_option maxHeartbeats 12800000 in
theorem rOrder_any (vo : Value) (o : List (Int × Bool)) : ∀ (n : Nat) (rs : List (List Vl)) (v : Value) (w : World), rs.length = n → RdR w 0 w.heap.size v rs → RdO w 0 w.heap.size vo o → rs.length ≤ 1099511627776 → (∀ r ∈ rs, r.length ≤ 2199023255552) → (∀ A n c, v = .slice A n c → n ≤ c) →
    Calls Tryd.prog 19 #[v, vo] w (RetR w (sortO o rs)) := by
  intro n
  induction n using Nat.strongRecOn with
  | _ n ih =>
    intro rs v w hn hv ho hlen hrow hcap
    have hv0 := hv
    have ho0 := ho
    obtain ⟨A, c, rfl, hl1, hc1⟩ := hv
    obtain ⟨Ao, co, rfl, hlo, hco⟩ := ho
    have hnc := hcap _ _ _ rfl
    have HC := Lib.hid hc1
    have HROW := Lib.hid hrow
    have HO := Lib.hid (fun W (h : Below w.heap.size w W) => ho0.step h (Nat.le_refl _))
    by_cases h0 : rs.length = 0
    · have n0 : ((rs.length : Int) == 0) = true := by rw [beq_iff_eq]; omega
      obtain rfl := List.eq_nil_of_length_eq_zero h0
      clear hc1 hco hrow hcap hv0 ho0 ih h0 hn
      go_enter Tryd.func19, Tryd.ntmps19
      go_wp2
      go_ret
      refine ⟨_, rfl, by rw [sortO_nil]; exact ⟨some ⟨w.heap.size, 0, none⟩, 0, rfl, by simp, by simp⟩, fun n c e => (by cases e), bel_mark w _⟩
    · have n0 : ((rs.length : Int) == 0) = false := by rw [beq_eq_false_iff_ne]; omega
      obtain ⟨ad, u0, rfl, q1, hab, k0, r0⟩ := hc1 0 _ (List.getElem?_eq_getElem (show 0 < rs.length by omega))
      by_cases h1 : rs.length = 1
      · have n1 : ((rs.length : Int) == 1) = true := by rw [beq_iff_eq]; omega
        have hlt0 : (0 : Int) < rs.length := by omega
        obtain ⟨r, rfl⟩ : ∃ r, rs = [r] := by
          match rs, h1 with
          | [r], _ => exact ⟨r, rfl⟩
        have hrl := hrow r (by simp)
        clear k0 r0 u0
        obtain ⟨ad2, u0, e2, q5, q6, k0, r0⟩ := hc1 0 r rfl
        obtain rfl := Option.some.inj e2
        rw [addZ0] at k0
        clear q5 q6
        have b1 := bel_mark w (.cells #[] 35)
        have d0 := (b1.cell (p := ad) hab).trans k0
        have RU := Lib.hid (r0.step b1 (Nat.le_refl _))
        have O7 := Lib.hid (own_litV w)
        have B1 := Lib.hid b1
        obtain ⟨⟨A3, c3, rfl, q2⟩, q3⟩ := r0
        have RU2 := Lib.hid RU.out.2
        have HRL := Lib.hid hrl
        have HZ1 := Lib.hid b1.size
        clear e2 hc1 hco hrow hcap hv0 ho0 ih h0 hn q1 q2 q3 k0 b1 hrl
        go_enter Tryd.func19, Tryd.ntmps19
        go_wp2_with (at_builtin; refine append_vx _ (by rfl) _ _ rfl w.heap.size _ [] rfl O7.out _ r _ _ rfl RU.out.1 RU2.out (by have := HRL.out; simp; omega) HZ1.out ?_; intro v8 w8 ho8 hb8; rw [List.nil_append] at ho8; have O8 := Lib.hid (RdN.of_own ho8 (by have := HRL.out; omega)); have HB8 := Lib.hid (B1.out.trans hb8); obtain ⟨⟨A8, c8, hv8, _⟩, _⟩ := RdN.of_own ho8 (by have := HRL.out; omega); subst hv8; clear ho8)
        go_ret
        refine ⟨_, rfl, by rw [sortO_one]; exact lit_row1 _ w HB8.out.size _ r (O8.out.low (Nat.zero_le _)), fun n c e => (by cases e), HB8.out.trans ((bel_mark _ _).mono HB8.out.size)⟩
      · have n1 : ((rs.length : Int) == 1) = false := by rw [beq_eq_false_iff_ne]; omega
        obtain ⟨m, hm⟩ : ∃ m, m = rs.length / 2 := ⟨_, rfl⟩
        have hmi : (rs.length : Int) / 2 = (m : Nat) := by omega
        have hm1 : 1 ≤ m := by omega
        have hm2 : m < rs.length := by omega
        have HI1 := Lib.hid (fun W (h : Below w.heap.size w W) => ih (rs.take m).length (by rw [List.length_take]; omega) (rs.take m) (.slice (some ad) m c) W rfl ((hv0.step h (Nat.le_refl _)).take m (by omega)) (ho0.step h (Nat.le_refl _)) (by rw [List.length_take]; omega) (fun r hr => hrow r (List.mem_of_mem_take hr)) (fun A n c e => by injection e with _ e2 e3; omega))
        have HI2 := Lib.hid (fun W (h : Below w.heap.size w W) => ih (rs.drop m).length (by rw [List.length_drop]; omega) (rs.drop m) (.slice (some (ad.add m)) (rs.length - m) (c - m)) W rfl ((hv0.step h (Nat.le_refl _)).drop m (by omega)) (ho0.step h (Nat.le_refl _)) (by rw [List.length_drop]; omega) (fun r hr => hrow r (List.mem_of_mem_drop hr)) (fun A n c e => by injection e with _ e2 e3; omega))
        have HS1 := Lib.hid (fun W => run_toR W ad rs.length c m (by omega))
        have HS2 := Lib.hid (fun W => run_fromR W ad rs.length c m (by omega) (by omega))
        have HH := Lib.hid (sortO_halves o rs m)
        have HLEN := Lib.hid (show (sortO o (rs.take m)).length + (sortO o (rs.drop m)).length ≤ 1099511627776 by rw [sortO_len, sortO_len, List.length_take, List.length_drop]; omega)
        clear hc1 hco hrow hcap hv0 ho0 ih h0 h1 hn q1 k0 r0 hm hab
        go_enter Tryd.func19, Tryd.ntmps19
        go_wp2_with fail
        refine wp_region_inv (w := w) (fun x => { tmps := #[.slice (some ad) rs.length c, .slice Ao o.length co, undef, undef, x 12, .int .i64 (m : Nat), .slice (some ad) rs.length c, .int .i64 rs.length, .bool false, undef, .slice (some ad) rs.length c, .int .i64 rs.length, .bool false, undef, undef, undef, undef, undef, undef, .slice (some ad) rs.length c, .int .i64 rs.length, .int .i64 (m : Nat), x 0, x 1, x 2, x 3, x 4, x 5, x 6, x 7, x 8, x 9, x 10, x 11], defers := [] }) [isF (.slice (some ad) rs.length c), isF (.int .i64 (m : Nat)), isF (.slice (some ad) m c), isF (.slice Ao o.length co), rowsF (sortO o (rs.take m)), isF (.slice (some ad) rs.length c), isF (.int .i64 (m : Nat)), isF (.slice (some (ad.add m)) (rs.length - m) (c - m)), isF (.slice Ao o.length co), rowsF (sortO o (rs.drop m)), isF (.slice Ao o.length co), rowsO w.heap.size (sortO o rs), rowsO w.heap.size (sortO o rs)] (fun j => if j = 12 then .slice none 0 0 else undef) (by kernel_rfl) (by kernel_rfl) (by rfl) ?_ ?_ ?_
        · intro x i o v ho
          have hi : i < 13 := (Array.getElem?_eq_some_iff.1 ho).1
          have hi2 : i = 0 ∨ i = 1 ∨ i = 2 ∨ i = 3 ∨ i = 4 ∨ i = 5 ∨ i = 6 ∨ i = 7 ∨ i = 8 ∨ i = 9 ∨ i = 10 ∨ i = 11 ∨ i = 12 := by omega
          rcases hi2 with rfl | rfl | rfl | rfl | rfl | rfl | rfl | rfl | rfl | rfl | rfl | rfl | rfl
          all_goals (obtain rfl := Option.some.inj ho; rfl)
        · intro i o ho x W hb hd K hK
          have hi : i < 13 := (Array.getElem?_eq_some_iff.1 ho).1
          have hi2 : i = 0 ∨ i = 1 ∨ i = 2 ∨ i = 3 ∨ i = 4 ∨ i = 5 ∨ i = 6 ∨ i = 7 ∨ i = 8 ∨ i = 9 ∨ i = 10 ∨ i = 11 ∨ i = 12 := by omega
          clear hi
          rcases hi2 with rfl | rfl | rfl | rfl | rfl | rfl | rfl | rfl | rfl | rfl | rfl | rfl | rfl
          · obtain rfl := Option.some.inj ho
            clear hd
            rw [if_pos (by rfl)]
            try dsimp only at hK ⊢
            go_simp
            exact hK.out _ W (Below.refl _ _) rfl
          · obtain rfl := Option.some.inj ho
            clear hd
            rw [if_pos (by rfl)]
            try dsimp only at hK ⊢
            go_simp
            exact hK.out _ W (Below.refl _ _) rfl
          · obtain rfl := Option.some.inj ho
            have h0 : x 0 = .slice (some ad) rs.length c := hd 0 (by kernel_rfl)
            simp only [h0] at hK ⊢
            have h1 : x 1 = .int .i64 (m : Nat) := hd 1 (by kernel_rfl)
            simp only [h1] at hK ⊢
            have q := fun W : World => HS1.out W
            clear hd
            rw [if_pos (by rfl)]
            try dsimp only at hK ⊢
            go_simp
            exact hK.out _ W (Below.refl _ _) rfl
          · obtain rfl := Option.some.inj ho
            clear hd
            rw [if_pos (by rfl)]
            try dsimp only at hK ⊢
            go_simp
            exact hK.out _ W (Below.refl _ _) rfl
          · obtain rfl := Option.some.inj ho
            have h2 : x 2 = .slice (some ad) m c := hd 2 (by kernel_rfl)
            simp only [h2] at hK ⊢
            have h3 : x 3 = .slice Ao o.length co := hd 3 (by kernel_rfl)
            simp only [h3] at hK ⊢
            replace hb := Lib.hid hb
            clear hd
            rw [if_pos (by rfl)]
            try dsimp only at hK ⊢
            go_simp
            (go_at_call 19; refine (HI1.out W hb.out).mono ?_; rintro e W1 ⟨u, rfl, hr, hn, hb1⟩; exact hK.out _ W1 hb1 (hr.low (Nat.zero_le _)))
          · obtain rfl := Option.some.inj ho
            clear hd
            rw [if_pos (by rfl)]
            try dsimp only at hK ⊢
            go_simp
            exact hK.out _ W (Below.refl _ _) rfl
          · obtain rfl := Option.some.inj ho
            clear hd
            rw [if_pos (by rfl)]
            try dsimp only at hK ⊢
            go_simp
            exact hK.out _ W (Below.refl _ _) rfl
          · obtain rfl := Option.some.inj ho
            have h5 : x 5 = .slice (some ad) rs.length c := hd 5 (by kernel_rfl)
            simp only [h5] at hK ⊢
            have h6 : x 6 = .int .i64 (m : Nat) := hd 6 (by kernel_rfl)
            simp only [h6] at hK ⊢
            have q := fun W : World => HS2.out W
            clear hd
            rw [if_pos (by rfl)]
            try dsimp only at hK ⊢
            go_simp
            exact hK.out _ W (Below.refl _ _) rfl
          · obtain rfl := Option.some.inj ho
            clear hd
            rw [if_pos (by rfl)]
            try dsimp only at hK ⊢
            go_simp
            exact hK.out _ W (Below.refl _ _) rfl
          · obtain rfl := Option.some.inj ho
            have h7 : x 7 = .slice (some (ad.add m)) (rs.length - m) (c - m) := hd 7 (by kernel_rfl)
            simp only [h7] at hK ⊢
            have h8 : x 8 = .slice Ao o.length co := hd 8 (by kernel_rfl)
            simp only [h8] at hK ⊢
            replace hb := Lib.hid hb
            clear hd
            rw [if_pos (by rfl)]
            try dsimp only at hK ⊢
            go_simp
            (go_at_call 19; refine (HI2.out W hb.out).mono ?_; rintro e W1 ⟨u, rfl, hr, hn, hb1⟩; exact hK.out _ W1 hb1 (hr.low (Nat.zero_le _)))
          · obtain rfl := Option.some.inj ho
            clear hd
            rw [if_pos (by rfl)]
            try dsimp only at hK ⊢
            go_simp
            exact hK.out _ W (Below.refl _ _) rfl
          · obtain rfl := Option.some.inj ho
            have h4 : RdR W 0 W.heap.size (x 4) (sortO o (rs.take m)) := hd 4 (by kernel_rfl)
            obtain ⟨A4, c4, e4, q4⟩ := id h4
            clear q4
            simp only [e4] at hK ⊢
            rw [e4] at h4
            replace h4 := Lib.hid h4
            have h9 : RdR W 0 W.heap.size (x 9) (sortO o (rs.drop m)) := hd 9 (by kernel_rfl)
            obtain ⟨A9, c9, e9, q9⟩ := id h9
            clear q9
            simp only [e9] at hK ⊢
            rw [e9] at h9
            replace h9 := Lib.hid h9
            have h10 : x 10 = .slice Ao o.length co := hd 10 (by kernel_rfl)
            simp only [h10] at hK ⊢
            replace hb := Lib.hid hb
            clear hd
            rw [if_pos (by rfl)]
            try dsimp only at hK ⊢
            go_simp
            (go_at_call 37; refine (rMerged_any _ _ _ _ _ o W 0 h4.out h9.out (HO.out W hb.out) HLEN.out).mono ?_; rintro e W1 ⟨u, rfl, hr, hn, hb1⟩; exact hK.out _ W1 hb1 ⟨by rw [HH.out]; exact hr.low hb.out.size, hn⟩)
          · obtain rfl := Option.some.inj ho
            have h11 : (rowsO w.heap.size (sortO o rs)).p (x 11) W := hd 11 (by kernel_rfl)
            replace h11 := Lib.hid h11
            clear hd
            rw [if_pos (by rfl)]
            try dsimp only at hK ⊢
            go_simp
            exact hK.out _ W (Below.refl _ _) h11.out
        · intro x W hb hf
          have h12 : (rowsO w.heap.size (sortO o rs)).p (x 12) W := hf 12 (by decide)
          have HF := Lib.hid h12
          have BW := Lib.hid hb
          clear hf hb h12
          try dsimp only
          generalize x 0 = y0 at *
          generalize x 1 = y1 at *
          generalize x 2 = y2 at *
          generalize x 3 = y3 at *
          generalize x 4 = y4 at *
          generalize x 5 = y5 at *
          generalize x 6 = y6 at *
          generalize x 7 = y7 at *
          generalize x 8 = y8 at *
          generalize x 9 = y9 at *
          generalize x 10 = y10 at *
          generalize x 11 = y11 at *
          generalize x 12 = y12 at *
          clear x
          go_wp2
          go_ret
          exact ⟨_, rfl, HF.out.1, HF.out.2, BW.out⟩
end Go.Proofs.YtimmfckkgdlokaaDoor
/-
  The reference's List; slices.EqualFunc over lists of rows, tuple.Same; short; the walk of the statement TupleOrders. Conditions: lengths; the tables lie as the rows say.
-/
namespace Go.Proofs.YtimmfckkgdlokaaDoor
set_option maxRecDepth 100000
open Go.RowKit

theorem eq_drop {rs qs : List (List Vl)} {k : Nat} {a b : List Vl} (ha : rs[k]? = some a) (hb : qs[k]? = some b) : decide (rs.drop k = qs.drop k) = ((cmpR a b == 0) && decide (rs.drop (k + 1) = qs.drop (k + 1))) := by
  obtain ⟨h1, rfl⟩ := List.getElem?_eq_some_iff.1 ha
  obtain ⟨h2, rfl⟩ := List.getElem?_eq_some_iff.1 hb
  have e : (rs.drop k = qs.drop k) ↔ (rs[k] = qs[k] ∧ rs.drop (k + 1) = qs.drop (k + 1)) := by
    rw [List.drop_eq_getElem_cons h1, List.drop_eq_getElem_cons h2]
    exact List.cons_eq_cons
  have h3 := cmpR_eq rs[k] qs[k]
  have h4 : (cmpR rs[k] qs[k] == 0) = decide (rs[k] = qs[k]) := by
    rw [Bool.eq_iff_iff, beq_iff_eq, decide_eq_true_iff]; exact h3
  rw [h4, ← Bool.decide_and]
  exact decide_eq_decide.2 e
set_option maxRecDepth 100000 in
set_option maxHeartbeats 6400000 in
theorem rList_any (u v : Value) (rs qs : List (List Vl)) (w : World) (hu : RdR w 0 w.heap.size u rs) (hv : RdR w 0 w.heap.size v qs) :
    Calls Tryd.prog 17 #[u, v] w fun e w' => e = .returned (.bool (decide (rs = qs))) ∧ Below w.heap.size w w' := by
  obtain ⟨A, c, rfl, hl1, hc1⟩ := hu
  obtain ⟨A2, c2, rfl, hl2, hc2⟩ := hv
  have HC := Lib.hid hc1
  have HC2 := Lib.hid hc2
  clear hc1 hc2
  by_cases hln : rs.length = qs.length
  rotate_left
  · have hne : ((rs.length : Int) != (qs.length : Int)) = true := by simp; omega
    have HF := Lib.hid (show decide (rs = qs) = false by rw [decide_eq_false_iff_not]; intro e; rw [e] at hln; exact hln rfl)
    go_enter Tryd.func17, Tryd.ntmps17
    go_wp2
    go_ret
    exact ⟨by rw [HF.out]; rfl, Below.refl _ _⟩
  have hne : ((rs.length : Int) != (qs.length : Int)) = false := by simp; omega
  have HLN := Lib.hid hln
  clear hln
  go_enter Tryd.func17, Tryd.ntmps17
  go_wp2
  go_loopw [5] (fun i wr => ∃ k : Nat, k ≤ rs.length ∧ i = .int .i64 k ∧ Hid (decide (rs = qs) = decide (rs.drop k = qs.drop k)) ∧ Below w.heap.size w wr) (fun i _ => rs.length - (intOf i).toNat)
  case atStart => exact ⟨0, Nat.zero_le _, rfl, Lib.hid rfl, Below.refl _ _⟩
  case round =>
    obtain ⟨k, hk, rfl, HR, hbr⟩ := hrel
    have hbz := hbr.size
    by_cases hlt : k < rs.length
    · have hki : (k : Int) < rs.length := by omega
      have hlt2 : k < qs.length := by have := HLN.out; omega
      have hki2 : (k : Int) < qs.length := by omega
      obtain ⟨ad, ua, rfl, _, hab, c0, hra⟩ := HC.out k _ (List.getElem?_eq_getElem hlt)
      obtain ⟨ad2, ub, rfl, _, hab2, b0, hrb⟩ := HC2.out k _ (List.getElem?_eq_getElem hlt2)
      have d0 := (hbr.cell (p := ad.add k) (by rw [add_block]; exact hab)).trans c0
      have f0 := (hbr.cell (p := ad2.add k) (by rw [add_block]; exact hab2)).trans b0
      have hcd := eq_drop (List.getElem?_eq_getElem hlt) (List.getElem?_eq_getElem hlt2)
      rw [← HR.out] at hcd
      generalize rs[k] = ra at *
      generalize qs[k] = rb at *
      have HE := Lib.hid (fun r : After wr => equal8_any ua ub ra rb r.w 0 0 (hra.step (hbr.trans (r.h.mono hbz)) (Nat.le_refl _)).1 (hrb.step (hbr.trans (r.h.mono hbz)) (Nat.le_refl _)).1)
      obtain ⟨⟨A3, c3, rfl, q1⟩, q2⟩ := hra
      obtain ⟨⟨A4, c4, rfl, q3⟩, q4⟩ := hrb
      have x0 : ∀ r : After wr, r.w.cell? (ad.add k) = some (.slice A3 ra.length c3) := after_cell (by rw [add_block]; omega) d0
      have x1 : ∀ r : After wr, r.w.cell? (ad2.add k) = some (.slice A4 rb.length c4) := after_cell (by rw [add_block]; omega) f0
      have HCD := Lib.hid hcd
      clear q1 q2 q3 q4 c0 b0 d0 f0 hcd
      cases hb : (cmpR ra rb == 0)
      · rw [hb] at HE HCD
        have HF := Lib.hid (show decide (rs = qs) = false by rw [HCD.out]; rfl)
        clear hb HCD
        go_wp2_with fail
        (refine wp_region_after (by kernel_rfl) (by kernel_rfl) ?_; (repeat (go_big_quiet_step ((go_at_call 15; exact calls_after (HE.out _))))); refine wpQuiet_nil ?_; intro wq hw0; obtain ⟨⟨wq0, hbq⟩, hw1⟩ := hw0; subst hw1; (try dsimp only))
        clear x0 x1 HE
        go_wp2
        go_ret
        exact ⟨by rw [HF.out]; rfl, hbr.trans (hbq.mono hbz)⟩
      · rw [hb] at HE HCD
        have HF := Lib.hid (show decide (rs = qs) = decide (rs.drop (k + 1) = qs.drop (k + 1)) by rw [HCD.out]; rfl)
        clear hb HCD
        go_wp2_with fail
        (refine wp_region_after (by kernel_rfl) (by kernel_rfl) ?_; (repeat (go_big_quiet_step ((go_at_call 15; exact calls_after (HE.out _))))); refine wpQuiet_nil ?_; intro wq hw0; obtain ⟨⟨wq0, hbq⟩, hw1⟩ := hw0; subst hw1; (try dsimp only))
        clear x0 x1 HE
        go_wp2
        go_roundw
        case rel => exact ⟨k + 1, by omega, by go_num, HF, hbr.trans (hbq.mono hbz)⟩
        case measure => simp [intOf]; omega
    · have hki : ¬ (k : Int) < rs.length := by omega
      have HF := Lib.hid (show decide (rs = qs) = true by rw [HR.out, List.drop_eq_nil_of_le (by omega), List.drop_eq_nil_of_le (by have := HLN.out; omega)]; rfl)
      go_wp2
      go_ret
      exact ⟨by rw [HF.out]; rfl, hbr⟩
set_option maxRecDepth 100000 in
set_option maxHeartbeats 6400000 in
theorem equalFunc_any (u v : Value) (rs qs : List (List Vl)) (w : World) (hu : RdR w 0 w.heap.size u rs) (hv : RdR w 0 w.heap.size v qs) :
    Calls Tryd.prog 41 #[u, v, .func (.func 14) #[] #[]] w fun e w' => e = .returned (.bool (decide (rs = qs))) ∧ Below w.heap.size w w' := by
  obtain ⟨A, c, rfl, hl1, hc1⟩ := hu
  obtain ⟨A2, c2, rfl, hl2, hc2⟩ := hv
  have HC := Lib.hid hc1
  have HC2 := Lib.hid hc2
  clear hc1 hc2
  by_cases hln : rs.length = qs.length
  rotate_left
  · have hne : ((rs.length : Int) != (qs.length : Int)) = true := by simp; omega
    have HF := Lib.hid (show decide (rs = qs) = false by rw [decide_eq_false_iff_not]; intro e; rw [e] at hln; exact hln rfl)
    go_enter Tryd.func41, Tryd.ntmps41
    go_wp2
    go_ret
    exact ⟨by rw [HF.out]; rfl, Below.refl _ _⟩
  have hne : ((rs.length : Int) != (qs.length : Int)) = false := by simp; omega
  have HLN := Lib.hid hln
  clear hln
  go_enter Tryd.func41, Tryd.ntmps41
  go_wp2
  go_loopw [17] (fun i wr => ∃ k : Nat, k ≤ rs.length ∧ i = .int .i64 k ∧ Hid (decide (rs = qs) = decide (rs.drop k = qs.drop k)) ∧ Below w.heap.size w wr) (fun i _ => rs.length - (intOf i).toNat)
  case atStart => exact ⟨0, Nat.zero_le _, rfl, Lib.hid rfl, Below.refl _ _⟩
  case round =>
    obtain ⟨k, hk, rfl, HR, hbr⟩ := hrel
    have hbz := hbr.size
    by_cases hlt : k < rs.length
    · have hki : (k : Int) < rs.length := by omega
      have hlt2 : k < qs.length := by have := HLN.out; omega
      have hki2 : (k : Int) < qs.length := by omega
      obtain ⟨ad, ua, rfl, _, hab, c0, hra⟩ := HC.out k _ (List.getElem?_eq_getElem hlt)
      obtain ⟨ad2, ub, rfl, _, hab2, b0, hrb⟩ := HC2.out k _ (List.getElem?_eq_getElem hlt2)
      have d0 := (hbr.cell (p := ad.add k) (by rw [add_block]; exact hab)).trans c0
      have f0 := (hbr.cell (p := ad2.add k) (by rw [add_block]; exact hab2)).trans b0
      have hcd := eq_drop (List.getElem?_eq_getElem hlt) (List.getElem?_eq_getElem hlt2)
      rw [← HR.out] at hcd
      generalize rs[k] = ra at *
      generalize qs[k] = rb at *
      have HE := Lib.hid (pEqual_any ua ub ra rb wr 0 0 (hra.step hbr (Nat.le_refl _)).1 (hrb.step hbr (Nat.le_refl _)).1)
      obtain ⟨⟨A3, c3, rfl, q1⟩, q2⟩ := hra
      obtain ⟨⟨A4, c4, rfl, q3⟩, q4⟩ := hrb
      have HCD := Lib.hid hcd
      clear q1 q2 q3 q4 c0 b0 hcd
      cases hb : (cmpR ra rb == 0)
      · rw [hb] at HE HCD
        have HF := Lib.hid (show decide (rs = qs) = false by rw [HCD.out]; rfl)
        clear hb HCD
        go_wp2_with fail
        with_reducible refine HE.out.mono ?_
        rintro e w1 ⟨rfl, hb1⟩
        go_wp2
        go_ret
        exact ⟨by rw [HF.out]; rfl, hbr.trans (hb1.mono hbz)⟩
      · rw [hb] at HE HCD
        have HF := Lib.hid (show decide (rs = qs) = decide (rs.drop (k + 1) = qs.drop (k + 1)) by rw [HCD.out]; rfl)
        clear hb HCD
        go_wp2_with fail
        with_reducible refine HE.out.mono ?_
        rintro e w1 ⟨rfl, hb1⟩
        go_wp2
        go_roundw
        case rel => exact ⟨k + 1, by omega, by go_num, HF, hbr.trans (hb1.mono hbz)⟩
        case measure => simp [intOf]; omega
    · have hki : ¬ (k : Int) < rs.length := by omega
      have HF := Lib.hid (show decide (rs = qs) = true by rw [HR.out, List.drop_eq_nil_of_le (by omega), List.drop_eq_nil_of_le (by have := HLN.out; omega)]; rfl)
      go_wp2
      go_ret
      exact ⟨by rw [HF.out]; rfl, hbr⟩
set_option maxHeartbeats 1600000 in
theorem pSame_any (u v : Value) (rs qs : List (List Vl)) (w : World) (L L2 : Nat) (hu : RdR w L w.heap.size u rs) (hv : RdR w L2 w.heap.size v qs) (hl1 : rs.length ≤ 1099511627776) (hr1 : ∀ r ∈ rs, r.length ≤ 2199023255552) (hl2 : qs.length ≤ 1099511627776) (hr2 : ∀ r ∈ qs, r.length ≤ 2199023255552) :
    Calls Tryd.prog 23 #[u, v] w fun e w' => e = .returned (.bool (decide (sortO [] rs = sortO [] qs))) ∧ Below w.heap.size w w' := by
  have H1 := Lib.hid (pSort_any u rs w L hu hl1 hr1)
  have H2 := Lib.hid (fun W (h : Below w.heap.size w W) => pSort_any v qs W L2 (hv.step h (Nat.le_refl _)) hl2 hr2)
  obtain ⟨A, c, rfl, q1⟩ := hu
  obtain ⟨A2, c2, rfl, q2⟩ := hv
  clear q1 q2
  go_enter Tryd.func23, Tryd.ntmps23
  go_wp2_with fail
  with_reducible refine H1.out.mono ?_
  rintro e w1 ⟨u1, rfl, hR1, hn1, hb1⟩
  have H2' := H2.out w1 hb1
  have HR1 := Lib.hid hR1
  clear H1 H2 hR1 hn1
  go_wp2_with fail
  with_reducible refine H2'.mono ?_
  rintro e w2 ⟨u2, rfl, hR2, hn2, hb2⟩
  have h3 := equalFunc_any u1 u2 _ _ w2 ((HR1.out.step hb2 (Nat.le_refl _)).low (Nat.zero_le _)) (hR2.low (Nat.zero_le _))
  clear H2' hR2 hn2 HR1
  go_wp2_with fail
  with_reducible refine h3.mono ?_
  rintro e w3 ⟨rfl, hb3⟩
  go_wp2
  go_ret
  exact ⟨rfl, (hb1.trans (hb2.mono hb1.size)).trans (hb3.mono (Nat.le_trans hb1.size hb2.size))⟩
set_option maxHeartbeats 800000 in
theorem short_any (v : Value) (rs : List (List Vl)) (w : World) (L : Nat) (hv : RdR w L w.heap.size v rs) :
    Calls Tryd.prog 16 #[v] w fun e w' => e = .returned (.bool (decide (rs.length ≤ 300))) ∧ w' = w := by
  obtain ⟨A, c, rfl, q1⟩ := hv
  clear q1
  by_cases h : rs.length ≤ 300
  · have hi : (rs.length : Int) ≤ 300 := by omega
    rw [decide_eq_true h]
    go_enter Tryd.func16, Tryd.ntmps16
    go_wp2
    go_ret
    exact ⟨rfl, rfl⟩
  · have hi : ¬ (rs.length : Int) ≤ 300 := by omega
    rw [decide_eq_false h]
    go_enter Tryd.func16, Tryd.ntmps16
    go_wp2
    go_ret
    exact ⟨rfl, rfl⟩
set_option maxRecDepth 100000 in
set_option maxHeartbeats 3200000 in
theorem law_orders (v vo : Value) (rs : List (List Vl)) (o : List (Int × Bool)) (w : World) (hE : Va.Env w) (hv : RdR w 0 w.heap.size v rs) (ho : RdO w 0 w.heap.size vo o) (hcap : ∀ A n c, v = .slice A n c → n ≤ c) (hl1 : rs.length ≤ 1099511627776) (hr1 : ∀ r ∈ rs, r.length ≤ 2199023255552) :
    Calls Tryd.prog 5 #[v, vo] w fun e w' => e = .returned (.bool true) ∧ Below w.heap.size w w' := by
  have h1 := short_any v rs w 0 hv
  have H2 := Lib.hid (fun W (h : Below w.heap.size w W) => pOrder_any v vo rs o W 0 0 (hv.step h (Nat.le_refl _)) (ho.step h (Nat.le_refl _)) hl1 hr1)
  have H3 := Lib.hid (fun W (h : Below w.heap.size w W) => rOrder_any vo o rs.length rs v W rfl (hv.step h (Nat.le_refl _)) (ho.step h (Nat.le_refl _)) hl1 hr1 hcap)
  have H5 := Lib.hid (fun W (h : Below w.heap.size w W) => awake_any W (hE.step h))
  obtain ⟨A, c, rfl, q1⟩ := hv
  obtain ⟨A2, c2, rfl, q2⟩ := ho
  clear q1 q2 hcap hl1 hr1
  by_cases hs : rs.length ≤ 300
  · rw [decide_eq_true hs] at h1
    have h2 := H2.out w (Below.refl _ _)
    clear hs
    go_enter Tryd.func5, Tryd.ntmps5
    go_wp2_with fail
    with_reducible refine h1.mono ?_
    rintro e w0 ⟨rfl, rfl⟩
    clear h1
    go_wp2_with fail
    with_reducible refine h2.mono ?_
    rintro e w1 ⟨u1, rfl, hR1, hn1, hb1⟩
    have h3 := H3.out w1 hb1
    have HR1 := Lib.hid hR1
    clear h2 H2 H3 hR1 hn1
    go_wp2_with fail
    with_reducible refine h3.mono ?_
    rintro e w2 ⟨u2, rfl, hR2, hn2, hb2⟩
    have B2 := hb1.trans (hb2.mono hb1.size)
    have h4 := rList_any u1 u2 _ _ w2 ((HR1.out.step hb2 (Nat.le_refl _)).low (Nat.zero_le _)) (hR2.low (Nat.zero_le _))
    rw [decide_eq_true rfl] at h4
    clear h3 hR2 hn2 HR1
    go_wp2_with fail
    with_reducible refine h4.mono ?_
    rintro e w3 ⟨rfl, hb3⟩
    have B3 := B2.trans (hb3.mono B2.size)
    have h5 := H5.out w3 B3
    clear h4 H5
    go_wp2_with fail
    with_reducible refine h5.mono ?_
    rintro e w4 ⟨rfl, hb4⟩
    go_wp2
    go_ret
    exact ⟨rfl, B3.trans (hb4.mono B3.size)⟩
  · rw [decide_eq_false hs] at h1
    have h5 := H5.out w (Below.refl _ _)
    clear hs H2 H3
    go_enter Tryd.func5, Tryd.ntmps5
    go_wp2_with fail
    with_reducible refine h1.mono ?_
    rintro e w0 ⟨rfl, rfl⟩
    clear h1
    go_wp2_with fail
    with_reducible refine h5.mono ?_
    rintro e w4 ⟨rfl, hb4⟩
    go_wp2
    go_ret
    exact ⟨rfl, hb4⟩
end Go.Proofs.YtimmfckkgdlokaaDoor
/-
  The walk of the statement TupleMultiset. Conditions: lengths; the tables lie as the rows say.
-/
namespace Go.Proofs.YtimmfckkgdlokaaDoor
set_option maxRecDepth 100000
open Go.RowKit

theorem sortO_again (o : List (Int × Bool)) (rs : List (List Vl)) : sortO [] (sortO o rs) = sortO [] rs := sortO_congr [] _ _ (sortO_perm o rs)
theorem sorted_pair (rs : List (List Vl)) (j : Nat) (a b : List Vl) (ha : (sortO [] rs)[j]? = some a) (hb : (sortO [] rs)[j + 1]? = some b) : ¬ cmpR a b > 0 := by
  have h := sortO_pair [] rs
  rw [List.pairwise_iff_getElem] at h
  obtain ⟨h1, rfl⟩ := List.getElem?_eq_some_iff.1 ha
  obtain ⟨h2, rfl⟩ := List.getElem?_eq_some_iff.1 hb
  have h3 := h j (j + 1) h1 h2 (by omega)
  unfold leO at h3
  have h6 : ¬ cmpO [] (sortO [] rs)[j + 1] (sortO [] rs)[j] < 0 := by simpa using h3
  have h4 : ¬ cmpR (sortO [] rs)[j + 1] (sortO [] rs)[j] < 0 := h6
  have h5 := cmpR_neg (sortO [] rs)[j] (sortO [] rs)[j + 1]
  omega
theorem heads_of {w : World} {L B : Nat} {ad : Addr} {n c : Nat} {rs : List (List Vl)} (h : RdR w L B (.slice (some ad) n c) rs) :
    ∃ vs : List Value, vs.length = rs.length ∧ (∀ j u, vs[j]? = some u → w.cell? (ad.add j) = some u) ∧ (∀ u ∈ vs, u.oneCell' = true) ∧ ∀ (k : Nat) (m : List Vl), rs[k]? = some m → ∃ u, vs[k]? = some u ∧ RdN w 0 B u m := by
  obtain ⟨A, c', e, _, hc⟩ := h
  injection e with e1 _ _
  subst e1
  have each : ∀ i, i < rs.length → ∃ u : Value, w.cell? (ad.add i) = some u ∧ u.oneCell' = true ∧ ∀ m, rs[i]? = some m → RdN w 0 B u m := by
    intro i hi
    obtain ⟨ad2, u, e, _, _, h1, h2⟩ := hc i _ (List.getElem?_eq_getElem hi)
    injection e with e
    subst e
    refine ⟨u, h1, ?_, fun m hm => ?_⟩
    · obtain ⟨⟨A, c, rfl, _⟩, _⟩ := h2; rfl
    · rw [List.getElem?_eq_getElem hi] at hm; injection hm with hm; rw [← hm]; exact h2
  obtain ⟨q, hq⟩ := Go.Deep.choose_lt each
  have hg : ∀ j u, ((List.range rs.length).map q)[j]? = some u → j < rs.length ∧ u = q j := by
    intro j u hj
    obtain ⟨hj1, hj2⟩ := List.getElem?_eq_some_iff.1 hj
    simp at hj1 hj2
    exact ⟨hj1, hj2.symm⟩
  refine ⟨(List.range rs.length).map q, by simp, fun j u hj => ?_, fun u hu => ?_, fun k m hk => ?_⟩
  · obtain ⟨h1, rfl⟩ := hg j u hj; exact (hq j h1).1
  · rw [List.mem_map] at hu
    obtain ⟨i, hi, rfl⟩ := hu
    exact (hq i (List.mem_range.1 hi)).2.1
  · have hk1 := (List.getElem?_eq_some_iff.1 hk).1
    exact ⟨q k, by simp [hk1], (hq k hk1).2.2 m hk⟩
theorem append_rs {ops : Array Oper} {rest : List Oper} {o : Oper} {a : Act} {Q : Exit → Act → World → Prop} (W : World) (hgd : o.guard = none) (s x : Operand)
    (ho : o.op = .call { callee := .builtin .append, args := #[s, x], argTypes := #[28, 28] }) (base : Nat) (vb : Value) (hs : a.eval s = vb)
    (hown : W.ownsRow base 22 1 vb 0 []) (ad : Addr) (n c : Nat) (vs : List Value) (hx : a.eval x = .slice (some ad) n c) (hn : vs.length = n) (hcells : ∀ j u, vs[j]? = some u → W.cell? (ad.add j) = some u) (h1 : ∀ u ∈ vs, u.oneCell' = true)
    (hl : n ≤ 1099511627776) (hpos : 0 < n) (hbase : base ≤ W.heap.size)
    (h : ∀ g cap w', w'.ownsRow base 22 1 (.slice (some ⟨g, 0, none⟩) n cap) n vs → base ≤ g → Below base W w' → wpList Tryd.prog ops Q rest (a.put o.dst (.slice (some ⟨g, 0, none⟩) n cap)) w') :
    wpList Tryd.prog ops Q (o :: rest) a W := by
  obtain ⟨i0, hi, hz0, hz1, hz2⟩ := info_partsB infoR
  refine wpList_append_own W hgd s x 28 ho base 22 i0 (.slice none 0 0) 1 24 Tryd.underlying28 hi hz0 hz1 hz2 rfl (by decide) vb 0 [] hs hown ad n c vs hx (by rw [hn, Nat.mul_one])
    hcells h1 (by unfold maxLen; omega) (by omega) hbase ?_
  intro v' w' h1 h2 _
  rw [Nat.zero_add, List.nil_append] at h1
  have h3 := h1
  obtain ⟨_, h4 | ⟨g, cap, cs, rfl, hb, _⟩⟩ := h3
  · omega
  · exact h g cap w' h1 hb ((Below.refl _ _).grown h2 hbase fun k hk => (hown.lt k hk).1)
theorem own_litR (w : World) : (w.alloc (.cells #[] 22)).ownsRow w.heap.size 22 1 (.slice (some ⟨w.heap.size, 0, none⟩) 0 0) 0 [] :=
  ⟨rfl, .inr ⟨w.heap.size, 0, #[], rfl, Nat.le_refl _, heap_alloc_new w _, Nat.le_refl _, Nat.zero_le _, rfl, rfl⟩⟩
/-- An own row of slices reads as rows. -/
theorem own_rd {w W : World} {base g n cap : Nat} {vs : List Value} {rs : List (List Vl)} (h : W.ownsRow base 22 1 (.slice (some ⟨g, 0, none⟩) n cap) n vs) (hn : rs.length = n) (hl : n ≤ 1099511627776) (hb : Below w.heap.size w W) (hel : ∀ (k : Nat) (m : List Vl), rs[k]? = some m → ∃ u, vs[k]? = some u ∧ RdN w 0 w.heap.size u m) : RdR W 0 W.heap.size (.slice (some ⟨g, 0, none⟩) n cap) rs := by
  subst hn
  refine ⟨some ⟨g, 0, none⟩, cap, rfl, by omega, fun k m hk => ?_⟩
  obtain ⟨u, hu, hr⟩ := hel k m hk
  exact ⟨⟨g, 0, none⟩, u, rfl, Nat.zero_le _, (h.lt g rfl).2, World.ownsRow.cells h rfl k u hu, hr.step hb (Nat.le_refl _)⟩
theorem set_rows {w : World} {vs : List Value} {rs : List (List Vl)} {i : Nat} {u : Value} {m : List Vl} (hu : RdN w 0 w.heap.size u m) (hl : vs.length = rs.length) (hel : ∀ (k : Nat) (m : List Vl), rs[k]? = some m → ∃ u, vs[k]? = some u ∧ RdN w 0 w.heap.size u m) : ∀ (k : Nat) (m' : List Vl), (rs.set i m)[k]? = some m' → ∃ u', (vs.set i u)[k]? = some u' ∧ RdN w 0 w.heap.size u' m' := by
  intro k m' hk
  rw [List.getElem?_set] at hk ⊢
  by_cases hik : i = k
  · subst hik
    rw [if_pos rfl] at hk ⊢
    by_cases hi : i < rs.length
    · rw [if_pos hi] at hk
      rw [if_pos (by omega)]
      injection hk with hk
      exact ⟨u, rfl, by rw [← hk]; exact hu⟩
    · rw [if_neg hi] at hk; cases hk
  · rw [if_neg hik] at hk ⊢
    exact hel k m' hk
/-! the walk -/
set_option maxRecDepth 100000 in
set_option maxHeartbeats 12800000 in
theorem law_multiset (v vo : Value) (rs : List (List Vl)) (o : List (Int × Bool)) (i k : Int) (w : World) (hE : Va.Env w) (hv : RdR w 0 w.heap.size v rs) (ho : RdO w 0 w.heap.size vo o) (hl1 : rs.length ≤ 1099511627776) (hr1 : ∀ r ∈ rs, r.length ≤ 2199023255552) :
    Calls Tryd.prog 7 #[v, vo, .int .i64 i, .int .i64 k] w fun e w' => e = .returned (.bool true) ∧ Below w.heap.size w w' := by
  have H1 := Lib.hid (pSort_any v rs w 0 hv hl1 hr1)
  have HSA := Lib.hid (fun u qs W (h : Below w.heap.size w W) (hq : RdR W 0 W.heap.size u qs) (hp : qs.Perm rs) => pSame_any u v qs rs W 0 0 hq (hv.step h (Nat.le_refl _)) (by rw [hp.length_eq]; exact hl1) (fun r hr => hr1 r (hp.mem_iff.1 hr)) hl1 hr1)
  have H2 := Lib.hid (fun W (h : Below w.heap.size w W) => pOrder_any v vo rs o W 0 0 (hv.step h (Nat.le_refl _)) (ho.step h (Nat.le_refl _)) hl1 hr1)
  have H5 := Lib.hid (fun W (h : Below w.heap.size w W) => awake_any W (hE.step h))
  have HV := Lib.hid (fun W (h : Below w.heap.size w W) => hv.step h (Nat.le_refl _))
  have HL := Lib.hid hl1
  have HR := Lib.hid hr1
  obtain ⟨A, c, rfl, q1⟩ := hv
  obtain ⟨A2, c2, rfl, q2⟩ := ho
  clear q1 q2 hE hr1
  go_enter Tryd.func7, Tryd.ntmps7
  go_wp2_with fail
  with_reducible refine H1.out.mono ?_
  rintro e w1 ⟨u1, rfl, hR1, hn1, hb1⟩
  have hR1 := hR1.low (Nat.zero_le _)
  have h2 := HSA.out u1 _ w1 hb1 hR1 (sortO_perm [] rs)
  rw [sortO_again, decide_eq_true rfl] at h2
  have HR1 := Lib.hid hR1
  obtain ⟨A3, c3, e3, q3⟩ := hR1
  rw [sortO_len] at e3
  subst e3
  have nn : ((rs.length : Int) != (rs.length : Int)) = false := by simp
  clear H1 hn1 q3
  go_wp2_with fail
  with_reducible refine h2.mono ?_
  rintro e w2 ⟨rfl, hb2⟩
  have B2 := hb1.trans (hb2.mono hb1.size)
  have h3 := H2.out w2 B2
  clear h2 H2
  go_wp2_with fail
  with_reducible refine h3.mono ?_
  rintro e w3 ⟨u2, rfl, hR2, hn2, hb3⟩
  have B3 := B2.trans (hb3.mono B2.size)
  have hR2 := hR2.low (Nat.zero_le _)
  have h4 := HSA.out u2 _ w3 B3 hR2 (sortO_perm o rs)
  rw [sortO_again, decide_eq_true rfl] at h4
  obtain ⟨A4, c4, e4, q4⟩ := hR2
  rw [sortO_len] at e4
  subst e4
  clear h3 HSA hn2 q4
  go_wp2_with fail
  with_reducible refine h4.mono ?_
  rintro e w4 ⟨rfl, hb4⟩
  have B4 := B3.trans (hb4.mono B3.size)
  have HR4 := Lib.hid (((HR1.out.step hb2 (Nat.le_refl _)).step hb3 (Nat.le_refl _)).step hb4 (Nat.le_refl _))
  have HB4 := Lib.hid B4
  clear h4 hb1 hb2 hb3 hb4 B2 B3 B4 HR1 nn
  go_wp2_with fail
  go_loopw [10] (fun x wr => ∃ j : Nat, j ≤ rs.length ∧ x = .int .i64 ((j : Int) + 1) ∧ Below w4.heap.size w4 wr) (fun x _ => rs.length + 1 - (intOf x).toNat)
  case atStart => exact ⟨0, Nat.zero_le _, rfl, Below.refl _ _⟩
  case round =>
    obtain ⟨j, hj, rfl, hbr⟩ := hrel
    have hbz := hbr.size
    have hj63 := HL.out
    by_cases hlt : j + 1 < rs.length
    · have hki : (j : Int) + 1 < rs.length := by omega
      have hki2 : (j : Int) < rs.length := by omega
      have hkm : (j : Int) + 1 - 1 = j := by omega
      have hl2 : j + 1 < (sortO [] rs).length := by rw [sortO_len]; exact hlt
      obtain ⟨A5, c5, e5, _, hc5⟩ := HR4.out
      obtain ⟨ad, ua, e6, _, hab, c0, hra⟩ := hc5 j _ (List.getElem?_eq_getElem (show j < (sortO [] rs).length by omega))
      obtain ⟨ad2, ub, e7, _, _, b0, hrb⟩ := hc5 (j + 1) _ (List.getElem?_eq_getElem hl2)
      rw [e6] at e7
      obtain rfl := Option.some.inj e7
      replace e5 := (Value.slice.inj e5).1
      rw [e6] at e5
      subst e5
      have hgt := sorted_pair rs j _ _ (List.getElem?_eq_getElem (show j < (sortO [] rs).length by omega)) (List.getElem?_eq_getElem hl2)
      generalize (sortO [] rs)[j] = ra at *
      generalize (sortO [] rs)[j + 1] = rb at *
      have HE := Lib.hid (fun r : After wr => tupleCompare_any ua ub ra rb r.w 0 0 (hra.step (hbr.trans (r.h.mono hbz)) (Nat.le_refl _)).1 (hrb.step (hbr.trans (r.h.mono hbz)) (Nat.le_refl _)).1)
      have d0 := (hbr.cell (p := ad.add j) (by rw [add_block]; exact hab)).trans c0
      have f0 := (hbr.cell (p := ad.add (j + 1)) (by rw [add_block]; exact hab)).trans b0
      obtain ⟨⟨A6, c6, rfl, q1⟩, q2⟩ := hra
      obtain ⟨⟨A7, c7, rfl, q3⟩, q4⟩ := hrb
      have x0 : ∀ r : After wr, r.w.cell? (ad.add j) = some (.slice A6 ra.length c6) := after_cell (by rw [add_block]; omega) d0
      rw [show ad.add (j + 1) = ⟨ad.block, ad.off + (j + 1), none⟩ by unfold Addr.add; simp] at f0
      have x1 : ∀ r : After wr, r.w.cell? ⟨ad.block, ad.off + (j + 1), none⟩ = some (.slice A7 rb.length c7) := after_cell (by show ad.block < _; omega) f0
      generalize cmpR ra rb = cv at *
      clear q1 q2 q3 q4 c0 b0 d0 f0 hc5 e6 hl2
      go_wp2_with fail
      (refine wp_region_after (by kernel_rfl) (by kernel_rfl) ?_; (repeat (go_big_quiet_step ((go_at_call 12; exact calls_after (HE.out _))))); refine wpQuiet_nil ?_; intro wq hw0; obtain ⟨⟨wq0, hbq⟩, hw1⟩ := hw0; subst hw1; (try dsimp only))
      clear x0 x1 HE
      go_wp2
      go_roundw
      case rel => exact ⟨j + 1, by omega, by go_num, hbr.trans (hbq.mono hbz)⟩
      case measure => simp [intOf]; omega
    · have hki : ¬ (j : Int) + 1 < rs.length := by omega
      have HBR := Lib.hid (HB4.out.trans (hbr.mono HB4.out.size))
      clear hlt
      by_cases hi0 : i < 0
      · have h5 := H5.out wr HBR.out
        clear H5 HL HR HV HR4
        go_wp2_with fail
        with_reducible refine h5.mono ?_
        rintro e w5 ⟨rfl, hb5⟩
        go_wp2
        go_ret
        exact ⟨rfl, HBR.out.trans (hb5.mono HBR.out.size)⟩
      by_cases hi1 : i ≥ rs.length
      · have h5 := H5.out wr HBR.out
        clear H5 HL HR HV HR4
        go_wp2_with fail
        with_reducible refine h5.mono ?_
        rintro e w5 ⟨rfl, hb5⟩
        go_wp2
        go_ret
        exact ⟨rfl, HBR.out.trans (hb5.mono HBR.out.size)⟩
      by_cases hk0 : k < 0
      · have h5 := H5.out wr HBR.out
        clear H5 HL HR HV HR4
        go_wp2_with fail
        with_reducible refine h5.mono ?_
        rintro e w5 ⟨rfl, hb5⟩
        go_wp2
        go_ret
        exact ⟨rfl, HBR.out.trans (hb5.mono HBR.out.size)⟩
      by_cases hk1 : k ≥ rs.length
      · have h5 := H5.out wr HBR.out
        clear H5 HL HR HV HR4
        go_wp2_with fail
        with_reducible refine h5.mono ?_
        rintro e w5 ⟨rfl, hb5⟩
        go_wp2
        go_ret
        exact ⟨rfl, HBR.out.trans (hb5.mono HBR.out.size)⟩
      obtain ⟨i, rfl⟩ := Int.eq_ofNat_of_zero_le (show 0 ≤ i by omega)
      obtain ⟨k, rfl⟩ := Int.eq_ofNat_of_zero_le (show 0 ≤ k by omega)
      have hin : i < rs.length := by omega
      have hkn : k < rs.length := by omega
      have hin2 : (i : Int) < rs.length := by omega
      have hkn2 : (k : Int) < rs.length := by omega
      have hV0 := HV.out wr HBR.out
      obtain ⟨A5, c5, e5, _, hc5⟩ := id hV0
      replace e5 := (Value.slice.inj e5).1
      subst e5
      obtain ⟨ad, ui, e6, _, hab, ci, hri⟩ := hc5 i _ (List.getElem?_eq_getElem hin)
      obtain ⟨ad2, uk, e7, _, _, ck, hrk⟩ := hc5 k _ (List.getElem?_eq_getElem hkn)
      rw [e6] at e7
      obtain rfl := Option.some.inj e7
      subst e6
      obtain ⟨vs, hvl, hvc, hv1, hvr⟩ := heads_of hV0
      have b7 := bel_mark wr (.cells #[] 22)
      have O7 := Lib.hid (own_litR wr)
      have HZ7 := Lib.hid b7.size
      have HVC := Lib.hid (fun j u (hj : vs[j]? = some u) => (b7.cell (p := ad.add j) (by
        rw [add_block]; exact hab)).trans (hvc j u hj))
      have HV1 := Lib.hid hv1
      have HVL := Lib.hid hvl
      have HVR := Lib.hid hvr
      have HPOS := Lib.hid (show 0 < rs.length by omega)
      have HRI := Lib.hid hri
      have HRK := Lib.hid hrk
      obtain ⟨⟨A6, c6, rfl, q1⟩, q2⟩ := hri
      obtain ⟨⟨A7, c7, rfl, q3⟩, q4⟩ := hrk
      have HCI := Lib.hid ci
      have HCK := Lib.hid ck
      have HAB := Lib.hid hab
      have HB7 := Lib.hid b7
      have hfin := fun W (h : Below wr.heap.size wr W) => H5.out W (HBR.out.trans (h.mono HBR.out.size))
      have HFIN := Lib.hid hfin
      have HRA := Lib.hid (HR4.out.step hbr (Nat.le_refl _))
      have HII := Lib.hid (List.getElem?_eq_getElem hin)
      have HKK := Lib.hid (List.getElem?_eq_getElem hkn)
      have HPERM := Lib.hid (List.set_set_perm hin hkn)
      generalize hgi : rs[i] = ri at *
      generalize hgk : rs[k] = rk at *
      clear q1 q2 q3 q4 hc5 hV0 hvc hv1 hvl hvr ci ck hab b7 hfin H5 HV HR4 hbr hbz hgi hgk
      go_wp2_with (at_builtin; refine append_rs _ rfl _ _ rfl wr.heap.size _ rfl O7.out ad rs.length _ vs rfl HVL.out HVC.out HV1.out HL.out HPOS.out HZ7.out ?_; intro g cap w8 ho8 hbg hb8; have O8 := Lib.hid ho8; have B8 := Lib.hid (HB7.out.trans hb8); have HBG := Lib.hid hbg; have d8 := (B8.out.cell (p := ad.add k) (by rw [add_block]; exact HAB.out)).trans HCK.out; have fi := World.ownsRow.frozenAt ho8 i; have gi := (World.ownsRow.cellAt ho8 i (by omega)).trans (HVR.out i _ HII.out).choose_spec.1; have s9 := World.ownsRow.stored ho8 i (.slice A7 rk.length c7); have d9 := (World.grownBy.cell_far s9.2 (ad.add i) (by rw [add_block]; exact Nat.lt_of_lt_of_le HAB.out B8.out.size) (by rw [add_block]; intro e; injection e with e; have := HAB.out; omega)).trans ((B8.out.cell (p := ad.add i) (by rw [add_block]; exact HAB.out)).trans HCI.out); have fk := World.ownsRow.frozenAt s9.1 k; obtain ⟨uk9, gk⟩ : ∃ u, (w8.setCell ⟨g, i, none⟩ (.slice A7 rk.length c7)).cell? ⟨g, k, none⟩ = some u := ⟨_, (World.ownsRow.cellAt s9.1 k (by omega)).trans (List.getElem?_eq_getElem (by rw [List.length_set, HVL.out]; omega))⟩; have S10 := Lib.hid (World.ownsRow.stored s9.1 k (.slice A6 ri.length c6)); clear ho8 hbg hb8 s9)
      have hBW := B8.out.trans ((Below.refl wr.heap.size w8).setCell (p := ⟨g, i, none⟩) HBG.out (.slice A7 rk.length c7))
      have hBX := hBW.trans ((Below.refl wr.heap.size (w8.setCell ⟨g, i, none⟩ (.slice A7 rk.length c7))).setCell (p := ⟨g, k, none⟩) HBG.out (.slice A6 ri.length c6))
      have hlen3 : ((rs.set i rk).set k ri).length = rs.length := by rw [List.length_set, List.length_set]
      have hRM := own_rd (rs := (rs.set i rk).set k ri) S10.out.1 hlen3 HL.out hBX (set_rows HRI.out (by rw [List.length_set, List.length_set]; exact HVL.out) (set_rows HRK.out HVL.out HVR.out))
      have h10 := pSort_any _ _ _ 0 hRM (by rw [hlen3]; exact HL.out) (fun r hr => HR.out r (HPERM.out.mem_iff.1 hr))
      rw [sortO_congr [] _ _ HPERM.out] at h10
      have HRA2 := Lib.hid (HRA.out.step hBX (Nat.le_refl _))
      have HBX := Lib.hid hBX
      generalize (w8.setCell ⟨g, i, none⟩ (.slice A7 rk.length c7)).setCell ⟨g, k, none⟩ (.slice A6 ri.length c6) = w10 at *
      clear hBW hBX hRM HRA hlen3 S10 gk gi d8 d9 fi fk
      with_reducible refine h10.mono ?_
      rintro e w11 ⟨u11, rfl, hR11, hn11, hb11⟩
      have B11 := HBX.out.trans (hb11.mono HBX.out.size)
      have h12 := rList_any u11 _ _ _ w11 (hR11.low (Nat.zero_le _)) (HRA2.out.step hb11 (Nat.le_refl _))
      rw [decide_eq_true rfl] at h12
      obtain ⟨A11, c11, e11, q11⟩ := hR11
      subst e11
      clear h10 hn11 q11
      go_wp2_with fail
      with_reducible refine h12.mono ?_
      rintro e w12 ⟨rfl, hb12⟩
      have B12 := B11.trans (hb12.mono B11.size)
      have h13 := HFIN.out w12 B12
      clear h12
      go_wp2_with fail
      with_reducible refine h13.mono ?_
      rintro e w13 ⟨rfl, hb13⟩
      go_wp2
      go_ret
      have B13 := B12.trans (hb13.mono B12.size)
      exact ⟨rfl, HBR.out.trans (B13.mono HBR.out.size)⟩
end Go.Proofs.YtimmfckkgdlokaaDoor
