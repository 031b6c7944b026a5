import Derived.Test.YtimmfckkgdlokaaGreatDoorMT
import Derived.WalkKit
import Derived.WalkSpells
import Derived.WalkLawsBesides
import Derived.Deep.QuietTactic
import Derived.BigQuiet
import Derived.Handy
import Derived.Lib.Hide
import Derived.Test.YtimmfckkgdlokaaGreatDoorMW
/-
  The reference's before and merged: what they answer. Conditions: lengths.
-/
namespace Go.Proofs.YtimmfckkgdlokaaGreatDoor
set_option maxRecDepth 100000
open Go.RowKit

theorem colO_sign (i : Int) (d : Bool) (p q : List Vl) : (colO (i, d) p q = 0 ↔ cmpP (atP p i) (atP q i) = 0) ∧ (cmpP (atP p i) (atP q i) ≠ 0 → (decide (cmpP (atP p i) (atP q i) < 0) != d) = decide (colO (i, d) p q < 0)) := by
  unfold colO
  cases d
  · exact ⟨Iff.rfl, fun _ => by simp⟩
  · have h := cmpP_neg (atP p i) (atP q i)
    rw [if_pos rfl]
    dsimp only
    rw [h]
    refine ⟨by omega, fun h0 => ?_⟩
    by_cases h1 : cmpP (atP p i) (atP q i) < 0
    · rw [decide_eq_true h1, decide_eq_false (by omega)]; rfl
    · rw [decide_eq_false h1, decide_eq_true (by omega)]; rfl
set_option maxRecDepth 100000 in
set_option maxHeartbeats 6400000 in
theorem rBefore_any (u v vo : Value) (p q : List Vl) (o : List (Int × Bool)) (w : World) (L : Nat) (hu : RdN w 0 w.heap.size u p) (hv : RdN w 0 w.heap.size v q) (ho : RdO w L w.heap.size vo o) :
    Calls Tryz.prog 50 #[u, v, vo] w fun e w' => e = .returned (.bool (decide (cmpO o p q < 0))) ∧ Below w.heap.size w w' := by
  have HU := Lib.hid (fun i W (h : Below w.heap.size w W) => rAt_any u p i W 0 (hu.step h (Nat.le_refl _)).1)
  have HV := Lib.hid (fun i W (h : Below w.heap.size w W) => rAt_any v q i W 0 (hv.step h (Nat.le_refl _)).1)
  have HT := Lib.hid (fun W (h : Below w.heap.size w W) => rCompare8_any u v p q W 0 0 (hu.step h (Nat.le_refl _)).1 (hv.step h (Nat.le_refl _)).1)
  have HC := Lib.hid (fun x y W => rCmp_any x y W)
  obtain ⟨⟨A, c, rfl, q1⟩, q2⟩ := hu
  obtain ⟨⟨A2, c2, rfl, q3⟩, q4⟩ := hv
  obtain ⟨Ao, co, rfl, hlo, hco⟩ := ho
  have HCO := Lib.hid hco
  clear q1 q2 q3 q4 hco
  go_enter Tryz.func50, Tryz.ntmps50
  go_wp2
  go_loopw [7] (fun i wr => ∃ k : Nat, k ≤ o.length ∧ i = .int .i64 k ∧ Hid (cmpO o p q = cmpO (o.drop k) p q) ∧ Below w.heap.size w wr) (fun i _ => o.length - (intOf i).toNat)
  case atStart => exact ⟨0, Nat.zero_le _, rfl, Lib.hid rfl, Below.refl _ _⟩
  case round =>
    obtain ⟨k, hk, rfl, HR, hbr⟩ := hrel
    have hbz := hbr.size
    by_cases hlt : k < o.length
    · have hki : (k : Int) < o.length := by omega
      obtain ⟨ad, rfl, _, hab, c0, c1⟩ := HCO.out k _ (List.getElem?_eq_getElem hlt)
      have d0 := (hbr.cell (p := ad.add (k * 2)) (by rw [add_block]; exact hab)).trans c0
      have d1 := (hbr.cell (p := ⟨(ad.add (k * 2)).block, (ad.add (k * 2)).off + 1, none⟩) (by show (ad.add (k * 2)).block < _; rw [add_block]; exact hab)).trans c1
      have hcd := cmpO_drop o p q k _ (List.getElem?_eq_getElem hlt)
      rw [← HR.out] at hcd
      generalize o[k] = x at *
      obtain ⟨i, d⟩ := x
      dsimp only at d0 d1
      obtain ⟨hs1, hs2⟩ := colO_sign i d p q
      have x0 : ∀ r : After wr, r.w.cell? (ad.add (k * 2)) = some (.int .i64 i) := after_cell (by rw [add_block]; omega) d0
      have hx : ∀ r : After wr, Calls Tryz.prog 69 #[.slice A p.length c, .int .i64 i] r.w fun e w' => e = .returned (valV (atP p i)) ∧ Below r.w.heap.size r.w w' := fun r => (HU.out i r.w (hbr.trans (r.h.mono hbz))).mono fun _ _ h => ⟨h.1, h.2.1⟩
      have hy : ∀ r : After wr, Calls Tryz.prog 69 #[.slice A2 q.length c2, .int .i64 i] r.w fun e w' => e = .returned (valV (atP q i)) ∧ Below r.w.heap.size r.w w' := fun r => (HV.out i r.w (hbr.trans (r.h.mono hbz))).mono fun _ _ h => ⟨h.1, h.2.1⟩
      have HX := Lib.hid hx
      have HY := Lib.hid hy
      have HCX := Lib.hid (fun W => HC.out (atP p i) (atP q i) W)
      generalize atP p i = xv at *
      generalize atP q i = yv at *
      generalize cmpP xv yv = r at *
      have HD1 := Lib.hid d1
      clear c0 c1 hx hy d0 d1
      by_cases hr : r = 0
      · have HF := Lib.hid (hcd.trans (if_pos (hs1.2 hr)))
        have e1 : (r != 0) = false := by simp [hr]
        clear hcd hr hs1 hs2
        go_wp2_with fail
        (refine wp_region_after (by kernel_rfl) (by kernel_rfl) ?_; (repeat (go_big_quiet_step (first | (go_at_call 69; first | with_reducible exact calls_after (HX.out _) | with_reducible exact calls_after (HY.out _)) | (go_at_call 45; exact calls_after (HCX.out _))))); refine wpQuiet_nil ?_; intro wq hw0; obtain ⟨⟨wq0, hbq⟩, hw1⟩ := hw0; subst hw1; (try dsimp only))
        have HB := Lib.hid (hbr.trans (hbq.mono hbz))
        clear x0
        go_wp2
        go_roundw
        case rel => exact ⟨k + 1, by omega, by go_num, HF, HB.out⟩
        case measure => simp [intOf]; omega
      · have hF := hcd.trans (if_neg (fun h => hr (hs1.1 h)))
        have HF := Lib.hid (show (decide (r < 0) != d) = decide (cmpO o p q < 0) by rw [hF]; exact hs2 hr)
        have e1 : (r != 0) = true := by simp [hr]
        clear hcd hr hs1 hs2 hF
        go_wp2_with fail
        (refine wp_region_after (by kernel_rfl) (by kernel_rfl) ?_; (repeat (go_big_quiet_step (first | (go_at_call 69; first | with_reducible exact calls_after (HX.out _) | with_reducible exact calls_after (HY.out _)) | (go_at_call 45; exact calls_after (HCX.out _))))); refine wpQuiet_nil ?_; intro wq hw0; obtain ⟨⟨wq0, hbq⟩, hw1⟩ := hw0; subst hw1; (try dsimp only))
        have HB := Lib.hid (hbr.trans (hbq.mono hbz))
        have d2 := (hbq.cell (p := ⟨(ad.add (k * 2)).block, (ad.add (k * 2)).off + 1, none⟩) (by show (ad.add (k * 2)).block < _; rw [add_block]; omega)).trans HD1.out
        clear x0
        go_wp2
        go_ret
        exact ⟨by rw [← HF.out]; rfl, HB.out⟩
    · have hki : ¬ (k : Int) < o.length := by omega
      have HF := Lib.hid (show cmpO o p q = cmpR p q by rw [HR.out, List.drop_eq_nil_of_le (by omega)]; rfl)
      have HTW := Lib.hid (HT.out wr hbr)
      clear HR HU HV HT HC
      go_wp2_with fail
      with_reducible refine HTW.out.mono ?_
      rintro e w1 ⟨rfl, hb1⟩
      go_wp2
      go_ret
      exact ⟨by rw [HF.out]; rfl, hbr.trans (hb1.mono hbz)⟩
/-- The row vb is the call's own and holds slices that could be read at its beginning. -/
def RowO (w wr : World) (vb : Value) (ms : List (List Vl)) : Prop :=
  ∃ vs : List Value, wr.ownsRow w.heap.size 32 1 vb ms.length vs ∧ ∀ (k : Nat) (m : List Vl), ms[k]? = some m → ∃ u, vs[k]? = some u ∧ RdN w 0 w.heap.size u m
theorem RowO.step {w w1 w2 : World} {vb : Value} {ms : List (List Vl)} (h : RowO w w1 vb ms) (hb : Below w1.heap.size w1 w2) : RowO w w2 vb ms := by
  obtain ⟨vs, h1, h2⟩ := h
  exact ⟨vs, own_below h1 hb, h2⟩
theorem RowO.lit (w w1 : World) (hz : w.heap.size ≤ w1.heap.size) : RowO w (w1.alloc (.cells #[] 32)) (.slice (some ⟨w1.heap.size, 0, none⟩) 0 0) [] :=
  ⟨[], ⟨rfl, .inr ⟨w1.heap.size, 0, #[], rfl, hz, heap_alloc_new w1 _, Nat.le_refl _, Nat.zero_le _, rfl, rfl⟩⟩, fun k m h => by simp at h⟩
theorem RowO.rd {w wr : World} {vb : Value} {ms : List (List Vl)} (h : RowO w wr vb ms) (hb : Below w.heap.size w wr) (hl : ms.length ≤ 9223372036854775807) : RdR wr w.heap.size wr.heap.size vb ms ∧ ∀ n c, vb = .slice none n c → c = 0 := by
  obtain ⟨vs, hown, h2⟩ := h
  have hown2 := hown
  obtain ⟨hl2, h3 | ⟨g, c, cs, rfl, hbg, _⟩⟩ := hown
  · obtain ⟨rfl, h0⟩ := h3
    have hm : ms = [] := by
      cases ms with
      | nil => rfl
      | cons m t => simp at h0
    subst hm
    exact ⟨⟨none, 0, rfl, by simp, fun k m h => by simp at h⟩, fun n c e => by injection e with _ _ e3; exact e3.symm⟩
  · refine ⟨⟨some ⟨g, 0, none⟩, c, rfl, hl, fun k m hk => ?_⟩, fun n c e => by cases e⟩
    obtain ⟨u, hu, hr⟩ := h2 k m hk
    exact ⟨⟨g, 0, none⟩, u, rfl, hbg, (hown2.lt g rfl).2, World.ownsRow.cells hown2 rfl k u hu, (hr.step hb (Nat.le_refl _)).low (Nat.zero_le _)⟩
theorem append_r {ops : Array Oper} {rest : List Oper} {o : Oper} {a : Act} {Q : Exit → Act → World → Prop} (W : World) (hgd : o.guard = none) (s x : Operand)
    (ho : o.op = .call { callee := .builtin .append, args := #[s, x], argTypes := #[22, 22] }) (w : World) (vb : Value) (ms : List (List Vl)) (hs : a.eval s = vb)
    (hR : RowO w W vb ms) (h0 c : Nat) (u : Value) (m : List Vl) (hx : a.eval x = .slice (some ⟨h0, 0, none⟩) 1 c) (hcell : W.cell? ⟨h0, 0, none⟩ = some u) (hu : RdN w 0 w.heap.size u m)
    (hl : ms.length ≤ 1099511627776) (hbase : w.heap.size ≤ W.heap.size)
    (h : ∀ v' w', RowO w w' v' (ms ++ [m]) → Below w.heap.size W w' → wpList Tryz.prog ops Q rest (a.put o.dst v') w') :
    wpList Tryz.prog ops Q (o :: rest) a W := by
  obtain ⟨vs, hown, hel⟩ := hR
  obtain ⟨i0, hi, hz0, hz1, hz2⟩ := info_partsB infoR
  have hsu : ∃ A n c', u = .slice A n c' := by obtain ⟨⟨A, c', rfl, _⟩, _⟩ := hu; exact ⟨_, _, _, rfl⟩
  refine wpList_append_own W hgd s x 22 ho w.heap.size 32 i0 (.slice none 0 0) 1 24 Tryz.underlying22 hi hz0 hz1 hz2 rfl (by decide) vb ms.length vs hs hown ⟨h0, 0, none⟩ 1 c [u] hx rfl
    ?_ ?_ (by unfold maxLen; omega) (by omega) hbase ?_
  · intro j v hj
    have hj0 : j = 0 := by have := (List.getElem?_eq_some_iff.1 hj).1; simp at this; omega
    subst hj0
    have hv : u = v := by simpa using hj
    subst hv
    exact hcell
  · intro v hv
    obtain ⟨A, n, c', rfl⟩ := hsu
    simp at hv
    subst hv
    rfl
  · intro v' w' h1 h2 _
    have hvl : vs.length = ms.length := by have := hown.1; omega
    refine h v' w' ⟨vs ++ [u], by rw [List.length_append]; exact h1, fun k p hk => ?_⟩ ((Below.refl _ _).grown h2 hbase fun k hk => (hown.lt k hk).1)
    by_cases hk1 : k < ms.length
    · rw [List.getElem?_append_left hk1] at hk
      obtain ⟨y, h5, h6⟩ := hel k p hk
      exact ⟨y, by rw [List.getElem?_append_left (by omega)]; exact h5, h6⟩
    · have hk2 : k = ms.length := by have := (List.getElem?_eq_some_iff.1 hk).1; simp at this; omega
      subst hk2
      have hp : m = p := by simpa using hk
      subst hp
      exact ⟨u, by rw [← hvl]; simp, hu⟩
end Go.Proofs.YtimmfckkgdlokaaGreatDoor
/-
  The reference's merged: what it answers. Conditions: lengths.
-/
namespace Go.Proofs.YtimmfckkgdlokaaGreatDoor
set_option maxRecDepth 100000
open Go.RowKit

set_option maxRecDepth 100000 in
set_option maxHeartbeats 12800000 in
theorem rMerged_any (u v vo : Value) (xs ys : List (List Vl)) (o : List (Int × Bool)) (w : World) (L : Nat) (hu : RdR w 0 w.heap.size u xs) (hv : RdR w 0 w.heap.size v ys) (ho : RdO w L w.heap.size vo o) (hl : xs.length + ys.length ≤ 1099511627776) :
    Calls Tryz.prog 37 #[u, v, vo] w (RetR w (xs.merge ys (leO o))) := by
  have HBF := Lib.hid (fun x y p q W (h : Below w.heap.size w W) (hx : RdN w 0 w.heap.size x p) (hy : RdN w 0 w.heap.size y q) => rBefore_any x y vo p q o W L (hx.step h (Nat.le_refl _)) (hy.step h (Nat.le_refl _)) (ho.step h (Nat.le_refl _)))
  obtain ⟨A, c, rfl, hl1, hc1⟩ := hu
  obtain ⟨A2, c2, rfl, hl2, hc2⟩ := hv
  obtain ⟨Ao, co, rfl, q1⟩ := ho
  have HC := Lib.hid hc1
  have HC2 := Lib.hid hc2
  have HL := Lib.hid hl
  have R0 := Lib.hid (RowO.lit w w (Nat.le_refl _))
  have B0 := Lib.hid (bel_mark w (.cells #[] 32))
  have hla : xs.length ≤ 1099511627776 := by omega
  have hlb : ys.length ≤ 1099511627776 := by omega
  clear hc1 hc2 q1 hl
  go_enter Tryz.func37, Tryz.ntmps37
  go_wp2
  go_loopw [7, 8, 9] (fun vb i j wr => ∃ (k m : Nat) (ms : List (List Vl)), k ≤ xs.length ∧ m ≤ ys.length ∧ i = .int .i64 k ∧ j = .int .i64 m ∧ Hid (ms.length = k + m) ∧ Hid (RowO w wr vb ms) ∧ Hid (xs.merge ys (leO o) = ms ++ (xs.drop k).merge (ys.drop m) (leO o)) ∧ Below w.heap.size w wr) (fun _ i j _ => (xs.length - (intOf i).toNat) + (ys.length - (intOf j).toNat))
  case atStart => exact ⟨0, 0, [], Nat.zero_le _, Nat.zero_le _, rfl, rfl, Lib.hid rfl, R0, Lib.hid rfl, B0.out⟩
  case round =>
    obtain ⟨k, m, ms, hk, hm, rfl, rfl, HML, HR, HM, hbr⟩ := hrel
    have hbz := hbr.size
    by_cases hlt : k < xs.length
    · have hki : (k : Int) < xs.length := by omega
      have eki : ((k : Int) == (xs.length : Int)) = false := by simp; omega
      obtain ⟨ad, ua, rfl, _, hab, c0, hra⟩ := HC.out k _ (List.getElem?_eq_getElem hlt)
      have d0 := (hbr.cell (p := ad.add k) (by rw [add_block]; exact hab)).trans c0
      have HGA := Lib.hid (List.getElem?_eq_getElem hlt)
      generalize xs[k] = ra at *
      by_cases hlt2 : m < ys.length
      · have hmi : (m : Int) < ys.length := by omega
        obtain ⟨ad2, ub, rfl, _, hab2, b0, hrb⟩ := HC2.out m _ (List.getElem?_eq_getElem hlt2)
        have f0 := (hbr.cell (p := ad2.add m) (by rw [add_block]; exact hab2)).trans b0
        have HGB := Lib.hid (List.getElem?_eq_getElem hlt2)
        generalize ys[m] = rb at *
        have HRA := Lib.hid hra
        have HRB := Lib.hid hrb
        obtain ⟨⟨A3, c3, rfl, q1⟩, q2⟩ := hra
        obtain ⟨⟨A4, c4, rfl, q3⟩, q4⟩ := hrb
        have x0 : ∀ r : After wr, r.w.cell? (ad.add k) = some (.slice A3 ra.length c3) := after_cell (by rw [add_block]; omega) d0
        have x1 : ∀ r : After wr, r.w.cell? (ad2.add m) = some (.slice A4 rb.length c4) := after_cell (by rw [add_block]; omega) f0
        have HF := Lib.hid (fun r : After wr => HBF.out _ _ _ _ r.w (hbr.trans (r.h.mono hbz)) HRB.out HRA.out)
        have D0 := Lib.hid d0
        have F0 := Lib.hid f0
        clear q1 q2 q3 q4 c0 b0 d0 f0
        by_cases hcm : cmpO o rb ra < 0
        · have HS := Lib.hid (show xs.merge ys (leO o) = (ms ++ [rb]) ++ (xs.drop k).merge (ys.drop (m + 1)) (leO o) by
            rw [HM.out, merge_drop_b k m rb HGB.out (.inr ⟨ra, HGA.out, hcm⟩), List.append_assoc]; rfl)
          rw [decide_eq_true hcm] at HF
          clear hcm
          go_wp2_with fail
          (refine wp_region_after (by kernel_rfl) (by kernel_rfl) ?_; (repeat (go_big_quiet_step ((go_at_call 50; exact calls_after (HF.out _))))); refine wpQuiet_nil ?_; intro wq hw0; obtain ⟨⟨wq0, hbq⟩, hw1⟩ := hw0; subst hw1; (try dsimp only))
          clear x0 x1
          have zq := hbq.size
          have B1 := hbr.trans (hbq.mono hbz)
          have z1 := B1.size
          have HB1 := Lib.hid B1
          have f1 := (hbq.cell (p := ad2.add m) (by rw [add_block]; omega)).trans F0.out
          have b2 := bel_mark wq (.cells #[.slice A4 rb.length c4] 32)
          have HR2 := Lib.hid ((HR.out.step hbq).step b2)
          have HCU := Lib.hid (show (wq.alloc (.cells #[.slice A4 rb.length c4] 32)).cell? ⟨wq.heap.size, 0, none⟩ = some (.slice A4 rb.length c4) from (Own.new wq 32 #[.slice A4 rb.length c4]).cell 0)
          have HB2 := Lib.hid (B1.trans (b2.mono z1))
          have hml : ms.length ≤ 1099511627776 := by have := HML.out; have := HL.out; omega
          have HMS := Lib.hid hml
          have HZ2 := Lib.hid HB2.out.size
          clear b2 B1 hml
          go_wp2_with (at_builtin; refine append_r _ rfl _ _ rfl w _ ms rfl HR2.out wq.heap.size 1 _ rb rfl HCU.out HRB.out HMS.out HZ2.out ?_; intro v3 w3 hR3 hb3)
          have B3 := HB2.out.trans hb3
          go_roundw
          case rel => exact ⟨k, m + 1, ms ++ [rb], hk, by omega, by go_num, by go_num, Lib.hid (by rw [List.length_append, HML.out]; simp; omega), Lib.hid hR3, HS, B3⟩
          case measure => simp [intOf]; omega
        · have HS := Lib.hid (show xs.merge ys (leO o) = (ms ++ [ra]) ++ (xs.drop (k + 1)).merge (ys.drop m) (leO o) by
            rw [HM.out, merge_drop_a k m ra HGA.out (.inr ⟨rb, HGB.out, hcm⟩), List.append_assoc]; rfl)
          rw [decide_eq_false hcm] at HF
          clear hcm
          go_wp2_with fail
          (refine wp_region_after (by kernel_rfl) (by kernel_rfl) ?_; (repeat (go_big_quiet_step ((go_at_call 50; exact calls_after (HF.out _))))); refine wpQuiet_nil ?_; intro wq hw0; obtain ⟨⟨wq0, hbq⟩, hw1⟩ := hw0; subst hw1; (try dsimp only))
          clear x0 x1
          have zq := hbq.size
          have B1 := hbr.trans (hbq.mono hbz)
          have z1 := B1.size
          have HB1 := Lib.hid B1
          have f1 := (hbq.cell (p := ad.add k) (by rw [add_block]; omega)).trans D0.out
          have b2 := bel_mark wq (.cells #[.slice A3 ra.length c3] 32)
          have HR2 := Lib.hid ((HR.out.step hbq).step b2)
          have HCU := Lib.hid (show (wq.alloc (.cells #[.slice A3 ra.length c3] 32)).cell? ⟨wq.heap.size, 0, none⟩ = some (.slice A3 ra.length c3) from (Own.new wq 32 #[.slice A3 ra.length c3]).cell 0)
          have HB2 := Lib.hid (B1.trans (b2.mono z1))
          have hml : ms.length ≤ 1099511627776 := by have := HML.out; have := HL.out; omega
          have HMS := Lib.hid hml
          have HZ2 := Lib.hid HB2.out.size
          clear b2 B1 hml
          go_wp2_with (at_builtin; refine append_r _ rfl _ _ rfl w _ ms rfl HR2.out wq.heap.size 1 _ ra rfl HCU.out HRA.out HMS.out HZ2.out ?_; intro v3 w3 hR3 hb3)
          have B3 := HB2.out.trans hb3
          go_roundw
          case rel => exact ⟨k + 1, m, ms ++ [ra], by omega, hm, by go_num, by go_num, Lib.hid (by rw [List.length_append, HML.out]; simp; omega), Lib.hid hR3, HS, B3⟩
          case measure => simp [intOf]; omega
      · have hmi : ¬ (m : Int) < ys.length := by omega
        have HRA := Lib.hid hra
        obtain ⟨⟨A3, c3, rfl, q1⟩, q2⟩ := hra
        have HS := Lib.hid (show xs.merge ys (leO o) = (ms ++ [ra]) ++ (xs.drop (k + 1)).merge (ys.drop m) (leO o) by
          rw [HM.out, merge_drop_a k m ra HGA.out (.inl (by omega)), List.append_assoc]; rfl)
        have D0 := Lib.hid d0
        clear q1 q2 c0 d0
        go_wp2_with fail
        (refine wp_region_after (by kernel_rfl) (by kernel_rfl) ?_; (repeat (go_big_quiet_step (fail))); refine wpQuiet_nil ?_; intro wq hw0; obtain ⟨⟨wq0, hbq⟩, hw1⟩ := hw0; subst hw1; (try dsimp only))
        have zq := hbq.size
        have B1 := hbr.trans (hbq.mono hbz)
        have z1 := B1.size
        have HB1 := Lib.hid B1
        have f1 := (hbq.cell (p := ad.add k) (by rw [add_block]; omega)).trans D0.out
        have b2 := bel_mark wq (.cells #[.slice A3 ra.length c3] 32)
        have HR2 := Lib.hid ((HR.out.step hbq).step b2)
        have HCU := Lib.hid (show (wq.alloc (.cells #[.slice A3 ra.length c3] 32)).cell? ⟨wq.heap.size, 0, none⟩ = some (.slice A3 ra.length c3) from (Own.new wq 32 #[.slice A3 ra.length c3]).cell 0)
        have HB2 := Lib.hid (B1.trans (b2.mono z1))
        have hml : ms.length ≤ 1099511627776 := by have := HML.out; have := HL.out; omega
        have HMS := Lib.hid hml
        have HZ2 := Lib.hid HB2.out.size
        clear b2 B1 hml
        go_wp2_with (at_builtin; refine append_r _ rfl _ _ rfl w _ ms rfl HR2.out wq.heap.size 1 _ ra rfl HCU.out HRA.out HMS.out HZ2.out ?_; intro v3 w3 hR3 hb3)
        have B3 := HB2.out.trans hb3
        go_roundw
        case rel => exact ⟨k + 1, m, ms ++ [ra], by omega, hm, by go_num, by go_num, Lib.hid (by rw [List.length_append, HML.out]; simp; omega), Lib.hid hR3, HS, B3⟩
        case measure => simp [intOf]; omega
    · have hki : ¬ (k : Int) < xs.length := by omega
      have hke : k = xs.length := by omega
      have eki : ((k : Int) == (xs.length : Int)) = true := by simp; omega
      by_cases hlt2 : m < ys.length
      · have hmi : (m : Int) < ys.length := by omega
        obtain ⟨ad2, ub, rfl, _, hab2, b0, hrb⟩ := HC2.out m _ (List.getElem?_eq_getElem hlt2)
        have f0 := (hbr.cell (p := ad2.add m) (by rw [add_block]; exact hab2)).trans b0
        have HGB := Lib.hid (List.getElem?_eq_getElem hlt2)
        generalize ys[m] = rb at *
        have HRB := Lib.hid hrb
        obtain ⟨⟨A4, c4, rfl, q3⟩, q4⟩ := hrb
        have HS := Lib.hid (show xs.merge ys (leO o) = (ms ++ [rb]) ++ (xs.drop k).merge (ys.drop (m + 1)) (leO o) by
          rw [HM.out, merge_drop_b k m rb HGB.out (.inl (by omega)), List.append_assoc]; rfl)
        have F0 := Lib.hid f0
        clear q3 q4 b0 f0 hke
        go_wp2_with fail
        (refine wp_region_after (by kernel_rfl) (by kernel_rfl) ?_; (repeat (go_big_quiet_step (fail))); refine wpQuiet_nil ?_; intro wq hw0; obtain ⟨⟨wq0, hbq⟩, hw1⟩ := hw0; subst hw1; (try dsimp only))
        have zq := hbq.size
        have B1 := hbr.trans (hbq.mono hbz)
        have z1 := B1.size
        have HB1 := Lib.hid B1
        have f1 := (hbq.cell (p := ad2.add m) (by rw [add_block]; omega)).trans F0.out
        have b2 := bel_mark wq (.cells #[.slice A4 rb.length c4] 32)
        have HR2 := Lib.hid ((HR.out.step hbq).step b2)
        have HCU := Lib.hid (show (wq.alloc (.cells #[.slice A4 rb.length c4] 32)).cell? ⟨wq.heap.size, 0, none⟩ = some (.slice A4 rb.length c4) from (Own.new wq 32 #[.slice A4 rb.length c4]).cell 0)
        have HB2 := Lib.hid (B1.trans (b2.mono z1))
        have hml : ms.length ≤ 1099511627776 := by have := HML.out; have := HL.out; omega
        have HMS := Lib.hid hml
        have HZ2 := Lib.hid HB2.out.size
        clear b2 B1 hml
        go_wp2_with (at_builtin; refine append_r _ rfl _ _ rfl w _ ms rfl HR2.out wq.heap.size 1 _ rb rfl HCU.out HRB.out HMS.out HZ2.out ?_; intro v3 w3 hR3 hb3)
        have B3 := HB2.out.trans hb3
        go_roundw
        case rel => exact ⟨k, m + 1, ms ++ [rb], hk, by omega, by go_num, by go_num, Lib.hid (by rw [List.length_append, HML.out]; simp; omega), Lib.hid hR3, HS, B3⟩
        case measure => simp [intOf]; omega
      · have hmi : ¬ (m : Int) < ys.length := by omega
        have HE := Lib.hid (show xs.merge ys (leO o) = ms by
          rw [HM.out, List.drop_eq_nil_of_le (by omega), List.drop_eq_nil_of_le (by omega)]; simp)
        have HRR := Lib.hid (HR.out.rd hbr (by have := HML.out; have := HL.out; omega))
        clear hke
        go_wp2
        go_ret
        rw [HE.out]
        exact ⟨_, rfl, HRR.out.1, HRR.out.2, hbr⟩
end Go.Proofs.YtimmfckkgdlokaaGreatDoor
/-
  The reference's Order, Sort, List: what they answer. Conditions: lengths. (Written by mkTuOr.py.)
-/
namespace Go.Proofs.YtimmfckkgdlokaaGreatDoor
set_option maxRecDepth 100000
open Go.RowKit

theorem addZ0 (ad : Addr) : ad.add 0 = ad := by unfold Addr.add; simp
def rowsO (L : Nat) (rs : List (List Vl)) : Fact := ⟨fun v W => RdR W L W.heap.size v rs ∧ ∀ n c, v = .slice none n c → c = 0, fun _ _ _ h hb => ⟨h.1.step hb (Nat.le_refl _), h.2⟩⟩
theorem RdR.take {w : World} {L B : Nat} {A : Option Addr} {n c : Nat} {rs : List (List Vl)} (h : RdR w L B (.slice A n c) rs) (m : Nat) (hm : m ≤ rs.length) : RdR w L B (.slice A m c) (rs.take m) := by
  obtain ⟨A', c', e, hl, hc⟩ := h
  injection e with e1 e2 e3
  subst e1 e3
  have hlt : (rs.take m).length = m := by rw [List.length_take]; omega
  refine ⟨A, c, by rw [hlt], by omega, fun k r hk => ?_⟩
  have hkm : k < m := by have := (List.getElem?_eq_some_iff.1 hk).1; omega
  rw [List.getElem?_take, if_pos hkm] at hk
  exact hc k r hk
theorem RdR.drop {w : World} {L B : Nat} {ad : Addr} {n c : Nat} {rs : List (List Vl)} (h : RdR w L B (.slice (some ad) n c) rs) (m : Nat) (_ : m ≤ rs.length) : RdR w L B (.slice (some (ad.add m)) (rs.length - m) (c - m)) (rs.drop m) := by
  obtain ⟨A', c', e, hl, hc⟩ := h
  injection e with e1 e2 e3
  subst e1 e3
  refine ⟨some (ad.add m), c - m, by rw [List.length_drop], by rw [List.length_drop]; omega, fun k r hk => ?_⟩
  rw [List.getElem?_drop] at hk
  obtain ⟨ad', u, e, h0, h1, h2, h3⟩ := hc (m + k) r hk
  injection e with e
  subst e
  exact ⟨ad.add m, u, rfl, by rw [add_block]; exact h0, by rw [add_block]; exact h1, by rw [add_add]; exact h2, h3⟩
theorem run_toR (W : World) (ad : Addr) (N c m : Nat) (hm : m ≤ c) :
    (Instr.slice 22 (.slice (some ad) N c) none (some (.int .i64 (m : Nat))) none).run Tryz.prog W = .ok (.slice (some ad) m c) W := by
  have hs := run_slice_h (P := Tryz.prog) (w := W) 22 (some ad) N c Tryz.underlying22 .i64 (m : Nat) (by omega) (by omega)
  rw [hs, show Tryz.prog.elem 22 = 32 by kernel_rfl, Tryz.sizeOf32]
  simp only [sliced, Result.andThen]
  rw [show (m : Int).toNat = m by omega, Nat.zero_mul]
  simp [addZ0]
theorem run_fromR (W : World) (ad : Addr) (N c m : Nat) (hm : m ≤ N) (hc : c ≠ m) :
    (Instr.slice 22 (.slice (some ad) N c) (some (.int .i64 (m : Nat))) none none).run Tryz.prog W = .ok (.slice (some (ad.add m)) (N - m) (c - m)) W := by
  have hs := run_slice_l (P := Tryz.prog) (w := W) 22 (some ad) N c Tryz.underlying22 .i64 (m : Nat) (by omega) (by omega)
  rw [hs, show Tryz.prog.elem 22 = 32 by kernel_rfl, Tryz.sizeOf32]
  simp only [sliced, Result.andThen]
  rw [show (m : Int).toNat = m by omega, Nat.mul_one, if_neg hc]
  rfl
theorem lit_row1 (w w0 : World) (hz : w0.heap.size ≤ w.heap.size) (u : Value) (r : List Vl) (hu : RdN w 0 w.heap.size u r) :
    RdR (w.alloc (.cells #[u] 32)) w0.heap.size (w.alloc (.cells #[u] 32)).heap.size (.slice (some ⟨w.heap.size, 0, none⟩) 1 1) [r] := by
  have o := Own.new w 32 #[u]
  refine ⟨_, _, rfl, by simp, fun k r' hk => ?_⟩
  have hk0 : k = 0 := by have := (List.getElem?_eq_some_iff.1 hk).1; simp at this; exact this
  subst hk0
  injection hk with hk
  subst hk
  exact ⟨⟨w.heap.size, 0, none⟩, u, rfl, hz, o.lt, by rw [cell_add_k]; exact o.cell 0, hu.step (bel_mark w _) (Nat.le_refl _)⟩
theorem sortO_nil (o : List (Int × Bool)) : sortO o [] = [] := (sortO_of o [] [] (List.Perm.refl _) List.Pairwise.nil).symm
theorem sortO_one (o : List (Int × Bool)) (r : List Vl) : sortO o [r] = [r] := (sortO_of o [r] [r] (List.Perm.refl _) (List.pairwise_singleton _ _)).symm
set_option maxRecDepth 100000 in
set_option maxHeartbeats 12800000 in
theorem rOrder_any (vo : Value) (o : List (Int × Bool)) : ∀ (n : Nat) (rs : List (List Vl)) (v : Value) (w : World), rs.length = n → RdR w 0 w.heap.size v rs → RdO w 0 w.heap.size vo o → rs.length ≤ 1099511627776 → (∀ r ∈ rs, r.length ≤ 2199023255552) → (∀ A n c, v = .slice A n c → n ≤ c) →
    Calls Tryz.prog 23 #[v, vo] w (RetR w (sortO o rs)) := by
  intro n
  induction n using Nat.strongRecOn with
  | _ n ih =>
    intro rs v w hn hv ho hlen hrow hcap
    have hv0 := hv
    have ho0 := ho
    obtain ⟨A, c, rfl, hl1, hc1⟩ := hv
    obtain ⟨Ao, co, rfl, hlo, hco⟩ := ho
    have hnc := hcap _ _ _ rfl
    have HC := Lib.hid hc1
    have HROW := Lib.hid hrow
    have HO := Lib.hid (fun W (h : Below w.heap.size w W) => ho0.step h (Nat.le_refl _))
    by_cases h0 : rs.length = 0
    · have n0 : ((rs.length : Int) == 0) = true := by rw [beq_iff_eq]; omega
      obtain rfl := List.eq_nil_of_length_eq_zero h0
      clear hc1 hco hrow hcap hv0 ho0 ih h0 hn
      go_enter Tryz.func23, Tryz.ntmps23
      go_wp2
      go_ret
      refine ⟨_, rfl, by rw [sortO_nil]; exact ⟨some ⟨w.heap.size, 0, none⟩, 0, rfl, by simp, by simp⟩, fun n c e => (by cases e), bel_mark w _⟩
    · have n0 : ((rs.length : Int) == 0) = false := by rw [beq_eq_false_iff_ne]; omega
      obtain ⟨ad, u0, rfl, q1, hab, k0, r0⟩ := hc1 0 _ (List.getElem?_eq_getElem (show 0 < rs.length by omega))
      by_cases h1 : rs.length = 1
      · have n1 : ((rs.length : Int) == 1) = true := by rw [beq_iff_eq]; omega
        have hlt0 : (0 : Int) < rs.length := by omega
        obtain ⟨r, rfl⟩ : ∃ r, rs = [r] := by
          match rs, h1 with
          | [r], _ => exact ⟨r, rfl⟩
        have hrl := hrow r (by simp)
        clear k0 r0 u0
        obtain ⟨ad2, u0, e2, q5, q6, k0, r0⟩ := hc1 0 r rfl
        obtain rfl := Option.some.inj e2
        rw [addZ0] at k0
        clear q5 q6
        have b1 := bel_mark w (.cells #[] 28)
        have d0 := (b1.cell (p := ad) hab).trans k0
        have RU := Lib.hid (r0.step b1 (Nat.le_refl _))
        have O7 := Lib.hid (own_litV w)
        have B1 := Lib.hid b1
        obtain ⟨⟨A3, c3, rfl, q2⟩, q3⟩ := r0
        have RU2 := Lib.hid RU.out.2
        have HRL := Lib.hid hrl
        have HZ1 := Lib.hid b1.size
        clear e2 hc1 hco hrow hcap hv0 ho0 ih h0 hn q1 q2 q3 k0 b1 hrl
        go_enter Tryz.func23, Tryz.ntmps23
        go_wp2_with (at_builtin; refine append_vx _ (by rfl) _ _ rfl w.heap.size _ [] rfl O7.out _ r _ _ rfl RU.out.1 RU2.out (by have := HRL.out; simp; omega) HZ1.out ?_; intro v8 w8 ho8 hb8; rw [List.nil_append] at ho8; have O8 := Lib.hid (RdN.of_own ho8 (by have := HRL.out; omega)); have HB8 := Lib.hid (B1.out.trans hb8); obtain ⟨⟨A8, c8, hv8, _⟩, _⟩ := RdN.of_own ho8 (by have := HRL.out; omega); subst hv8; clear ho8)
        go_ret
        refine ⟨_, rfl, by rw [sortO_one]; exact lit_row1 _ w HB8.out.size _ r (O8.out.low (Nat.zero_le _)), fun n c e => (by cases e), HB8.out.trans ((bel_mark _ _).mono HB8.out.size)⟩
      · have n1 : ((rs.length : Int) == 1) = false := by rw [beq_eq_false_iff_ne]; omega
        obtain ⟨m, hm⟩ : ∃ m, m = rs.length / 2 := ⟨_, rfl⟩
        have hmi : (rs.length : Int) / 2 = (m : Nat) := by omega
        have hm1 : 1 ≤ m := by omega
        have hm2 : m < rs.length := by omega
        have HI1 := Lib.hid (fun W (h : Below w.heap.size w W) => ih (rs.take m).length (by rw [List.length_take]; omega) (rs.take m) (.slice (some ad) m c) W rfl ((hv0.step h (Nat.le_refl _)).take m (by omega)) (ho0.step h (Nat.le_refl _)) (by rw [List.length_take]; omega) (fun r hr => hrow r (List.mem_of_mem_take hr)) (fun A n c e => by injection e with _ e2 e3; omega))
        have HI2 := Lib.hid (fun W (h : Below w.heap.size w W) => ih (rs.drop m).length (by rw [List.length_drop]; omega) (rs.drop m) (.slice (some (ad.add m)) (rs.length - m) (c - m)) W rfl ((hv0.step h (Nat.le_refl _)).drop m (by omega)) (ho0.step h (Nat.le_refl _)) (by rw [List.length_drop]; omega) (fun r hr => hrow r (List.mem_of_mem_drop hr)) (fun A n c e => by injection e with _ e2 e3; omega))
        have HS1 := Lib.hid (fun W => run_toR W ad rs.length c m (by omega))
        have HS2 := Lib.hid (fun W => run_fromR W ad rs.length c m (by omega) (by omega))
        have HH := Lib.hid (sortO_halves o rs m)
        have HLEN := Lib.hid (show (sortO o (rs.take m)).length + (sortO o (rs.drop m)).length ≤ 1099511627776 by rw [sortO_len, sortO_len, List.length_take, List.length_drop]; omega)
        clear hc1 hco hrow hcap hv0 ho0 ih h0 h1 hn q1 k0 r0 hm hab
        go_enter Tryz.func23, Tryz.ntmps23
        go_wp2_with fail
        refine wp_region_inv (w := w) (fun x => { tmps := #[.slice (some ad) rs.length c, .slice Ao o.length co, undef, undef, x 12, .int .i64 (m : Nat), .slice (some ad) rs.length c, .int .i64 rs.length, .bool false, undef, .slice (some ad) rs.length c, .int .i64 rs.length, .bool false, undef, undef, undef, undef, undef, undef, .slice (some ad) rs.length c, .int .i64 rs.length, .int .i64 (m : Nat), x 0, x 1, x 2, x 3, x 4, x 5, x 6, x 7, x 8, x 9, x 10, x 11], defers := [] }) [isF (.slice (some ad) rs.length c), isF (.int .i64 (m : Nat)), isF (.slice (some ad) m c), isF (.slice Ao o.length co), rowsF (sortO o (rs.take m)), isF (.slice (some ad) rs.length c), isF (.int .i64 (m : Nat)), isF (.slice (some (ad.add m)) (rs.length - m) (c - m)), isF (.slice Ao o.length co), rowsF (sortO o (rs.drop m)), isF (.slice Ao o.length co), rowsO w.heap.size (sortO o rs), rowsO w.heap.size (sortO o rs)] (fun j => if j = 12 then .slice none 0 0 else undef) (by kernel_rfl) (by kernel_rfl) (by rfl) ?_ ?_ ?_
        · intro x i o v ho
          have hi : i < 13 := (Array.getElem?_eq_some_iff.1 ho).1
          have hi2 : i = 0 ∨ i = 1 ∨ i = 2 ∨ i = 3 ∨ i = 4 ∨ i = 5 ∨ i = 6 ∨ i = 7 ∨ i = 8 ∨ i = 9 ∨ i = 10 ∨ i = 11 ∨ i = 12 := by omega
          rcases hi2 with rfl | rfl | rfl | rfl | rfl | rfl | rfl | rfl | rfl | rfl | rfl | rfl | rfl
          all_goals (obtain rfl := Option.some.inj ho; rfl)
        · intro i o ho x W hb hd K hK
          have hi : i < 13 := (Array.getElem?_eq_some_iff.1 ho).1
          have hi2 : i = 0 ∨ i = 1 ∨ i = 2 ∨ i = 3 ∨ i = 4 ∨ i = 5 ∨ i = 6 ∨ i = 7 ∨ i = 8 ∨ i = 9 ∨ i = 10 ∨ i = 11 ∨ i = 12 := by omega
          clear hi
          rcases hi2 with rfl | rfl | rfl | rfl | rfl | rfl | rfl | rfl | rfl | rfl | rfl | rfl | rfl
          · obtain rfl := Option.some.inj ho
            clear hd
            rw [if_pos (by rfl)]
            try dsimp only at hK ⊢
            go_simp
            exact hK.out _ W (Below.refl _ _) rfl
          · obtain rfl := Option.some.inj ho
            clear hd
            rw [if_pos (by rfl)]
            try dsimp only at hK ⊢
            go_simp
            exact hK.out _ W (Below.refl _ _) rfl
          · obtain rfl := Option.some.inj ho
            have h0 : x 0 = .slice (some ad) rs.length c := hd 0 (by kernel_rfl)
            simp only [h0] at hK ⊢
            have h1 : x 1 = .int .i64 (m : Nat) := hd 1 (by kernel_rfl)
            simp only [h1] at hK ⊢
            have q := fun W : World => HS1.out W
            clear hd
            rw [if_pos (by rfl)]
            try dsimp only at hK ⊢
            go_simp
            exact hK.out _ W (Below.refl _ _) rfl
          · obtain rfl := Option.some.inj ho
            clear hd
            rw [if_pos (by rfl)]
            try dsimp only at hK ⊢
            go_simp
            exact hK.out _ W (Below.refl _ _) rfl
          · obtain rfl := Option.some.inj ho
            have h2 : x 2 = .slice (some ad) m c := hd 2 (by kernel_rfl)
            simp only [h2] at hK ⊢
            have h3 : x 3 = .slice Ao o.length co := hd 3 (by kernel_rfl)
            simp only [h3] at hK ⊢
            replace hb := Lib.hid hb
            clear hd
            rw [if_pos (by rfl)]
            try dsimp only at hK ⊢
            go_simp
            (go_at_call 23; refine (HI1.out W hb.out).mono ?_; rintro e W1 ⟨u, rfl, hr, hn, hb1⟩; exact hK.out _ W1 hb1 (hr.low (Nat.zero_le _)))
          · obtain rfl := Option.some.inj ho
            clear hd
            rw [if_pos (by rfl)]
            try dsimp only at hK ⊢
            go_simp
            exact hK.out _ W (Below.refl _ _) rfl
          · obtain rfl := Option.some.inj ho
            clear hd
            rw [if_pos (by rfl)]
            try dsimp only at hK ⊢
            go_simp
            exact hK.out _ W (Below.refl _ _) rfl
          · obtain rfl := Option.some.inj ho
            have h5 : x 5 = .slice (some ad) rs.length c := hd 5 (by kernel_rfl)
            simp only [h5] at hK ⊢
            have h6 : x 6 = .int .i64 (m : Nat) := hd 6 (by kernel_rfl)
            simp only [h6] at hK ⊢
            have q := fun W : World => HS2.out W
            clear hd
            rw [if_pos (by rfl)]
            try dsimp only at hK ⊢
            go_simp
            exact hK.out _ W (Below.refl _ _) rfl
          · obtain rfl := Option.some.inj ho
            clear hd
            rw [if_pos (by rfl)]
            try dsimp only at hK ⊢
            go_simp
            exact hK.out _ W (Below.refl _ _) rfl
          · obtain rfl := Option.some.inj ho
            have h7 : x 7 = .slice (some (ad.add m)) (rs.length - m) (c - m) := hd 7 (by kernel_rfl)
            simp only [h7] at hK ⊢
            have h8 : x 8 = .slice Ao o.length co := hd 8 (by kernel_rfl)
            simp only [h8] at hK ⊢
            replace hb := Lib.hid hb
            clear hd
            rw [if_pos (by rfl)]
            try dsimp only at hK ⊢
            go_simp
            (go_at_call 23; refine (HI2.out W hb.out).mono ?_; rintro e W1 ⟨u, rfl, hr, hn, hb1⟩; exact hK.out _ W1 hb1 (hr.low (Nat.zero_le _)))
          · obtain rfl := Option.some.inj ho
            clear hd
            rw [if_pos (by rfl)]
            try dsimp only at hK ⊢
            go_simp
            exact hK.out _ W (Below.refl _ _) rfl
          · obtain rfl := Option.some.inj ho
            have h4 : RdR W 0 W.heap.size (x 4) (sortO o (rs.take m)) := hd 4 (by kernel_rfl)
            obtain ⟨A4, c4, e4, q4⟩ := id h4
            clear q4
            simp only [e4] at hK ⊢
            rw [e4] at h4
            replace h4 := Lib.hid h4
            have h9 : RdR W 0 W.heap.size (x 9) (sortO o (rs.drop m)) := hd 9 (by kernel_rfl)
            obtain ⟨A9, c9, e9, q9⟩ := id h9
            clear q9
            simp only [e9] at hK ⊢
            rw [e9] at h9
            replace h9 := Lib.hid h9
            have h10 : x 10 = .slice Ao o.length co := hd 10 (by kernel_rfl)
            simp only [h10] at hK ⊢
            replace hb := Lib.hid hb
            clear hd
            rw [if_pos (by rfl)]
            try dsimp only at hK ⊢
            go_simp
            (go_at_call 37; refine (rMerged_any _ _ _ _ _ o W 0 h4.out h9.out (HO.out W hb.out) HLEN.out).mono ?_; rintro e W1 ⟨u, rfl, hr, hn, hb1⟩; exact hK.out _ W1 hb1 ⟨by rw [HH.out]; exact hr.low hb.out.size, hn⟩)
          · obtain rfl := Option.some.inj ho
            have h11 : (rowsO w.heap.size (sortO o rs)).p (x 11) W := hd 11 (by kernel_rfl)
            replace h11 := Lib.hid h11
            clear hd
            rw [if_pos (by rfl)]
            try dsimp only at hK ⊢
            go_simp
            exact hK.out _ W (Below.refl _ _) h11.out
        · intro x W hb hf
          have h12 : (rowsO w.heap.size (sortO o rs)).p (x 12) W := hf 12 (by decide)
          have HF := Lib.hid h12
          have BW := Lib.hid hb
          clear hf hb h12
          try dsimp only
          generalize x 0 = y0 at *
          generalize x 1 = y1 at *
          generalize x 2 = y2 at *
          generalize x 3 = y3 at *
          generalize x 4 = y4 at *
          generalize x 5 = y5 at *
          generalize x 6 = y6 at *
          generalize x 7 = y7 at *
          generalize x 8 = y8 at *
          generalize x 9 = y9 at *
          generalize x 10 = y10 at *
          generalize x 11 = y11 at *
          generalize x 12 = y12 at *
          clear x
          go_wp2
          go_ret
          exact ⟨_, rfl, HF.out.1, HF.out.2, BW.out⟩
end Go.Proofs.YtimmfckkgdlokaaGreatDoor
/-
  The reference's List; slices.EqualFunc over lists of rows, tuple.Same; short; the walk of the statement TupleOrders. Conditions: lengths; the tables lie as the rows say.
-/
namespace Go.Proofs.YtimmfckkgdlokaaGreatDoor
set_option maxRecDepth 100000
open Go.RowKit

theorem eq_drop {rs qs : List (List Vl)} {k : Nat} {a b : List Vl} (ha : rs[k]? = some a) (hb : qs[k]? = some b) : decide (rs.drop k = qs.drop k) = ((cmpR a b == 0) && decide (rs.drop (k + 1) = qs.drop (k + 1))) := by
  obtain ⟨h1, rfl⟩ := List.getElem?_eq_some_iff.1 ha
  obtain ⟨h2, rfl⟩ := List.getElem?_eq_some_iff.1 hb
  have e : (rs.drop k = qs.drop k) ↔ (rs[k] = qs[k] ∧ rs.drop (k + 1) = qs.drop (k + 1)) := by
    rw [List.drop_eq_getElem_cons h1, List.drop_eq_getElem_cons h2]
    exact List.cons_eq_cons
  have h3 := cmpR_eq rs[k] qs[k]
  have h4 : (cmpR rs[k] qs[k] == 0) = decide (rs[k] = qs[k]) := by
    rw [Bool.eq_iff_iff, beq_iff_eq, decide_eq_true_iff]; exact h3
  rw [h4, ← Bool.decide_and]
  exact decide_eq_decide.2 e
set_option maxRecDepth 100000 in
set_option maxHeartbeats 6400000 in
theorem rList_any (u v : Value) (rs qs : List (List Vl)) (w : World) (hu : RdR w 0 w.heap.size u rs) (hv : RdR w 0 w.heap.size v qs) :
    Calls Tryz.prog 6 #[u, v] w fun e w' => e = .returned (.bool (decide (rs = qs))) ∧ Below w.heap.size w w' := by
  obtain ⟨A, c, rfl, hl1, hc1⟩ := hu
  obtain ⟨A2, c2, rfl, hl2, hc2⟩ := hv
  have HC := Lib.hid hc1
  have HC2 := Lib.hid hc2
  clear hc1 hc2
  by_cases hln : rs.length = qs.length
  rotate_left
  · have hne : ((rs.length : Int) != (qs.length : Int)) = true := by simp; omega
    have HF := Lib.hid (show decide (rs = qs) = false by rw [decide_eq_false_iff_not]; intro e; rw [e] at hln; exact hln rfl)
    go_enter Tryz.func6, Tryz.ntmps6
    go_wp2
    go_ret
    exact ⟨by rw [HF.out]; rfl, Below.refl _ _⟩
  have hne : ((rs.length : Int) != (qs.length : Int)) = false := by simp; omega
  have HLN := Lib.hid hln
  clear hln
  go_enter Tryz.func6, Tryz.ntmps6
  go_wp2
  go_loopw [5] (fun i wr => ∃ k : Nat, k ≤ rs.length ∧ i = .int .i64 k ∧ Hid (decide (rs = qs) = decide (rs.drop k = qs.drop k)) ∧ Below w.heap.size w wr) (fun i _ => rs.length - (intOf i).toNat)
  case atStart => exact ⟨0, Nat.zero_le _, rfl, Lib.hid rfl, Below.refl _ _⟩
  case round =>
    obtain ⟨k, hk, rfl, HR, hbr⟩ := hrel
    have hbz := hbr.size
    by_cases hlt : k < rs.length
    · have hki : (k : Int) < rs.length := by omega
      have hlt2 : k < qs.length := by have := HLN.out; omega
      have hki2 : (k : Int) < qs.length := by omega
      obtain ⟨ad, ua, rfl, _, hab, c0, hra⟩ := HC.out k _ (List.getElem?_eq_getElem hlt)
      obtain ⟨ad2, ub, rfl, _, hab2, b0, hrb⟩ := HC2.out k _ (List.getElem?_eq_getElem hlt2)
      have d0 := (hbr.cell (p := ad.add k) (by rw [add_block]; exact hab)).trans c0
      have f0 := (hbr.cell (p := ad2.add k) (by rw [add_block]; exact hab2)).trans b0
      have hcd := eq_drop (List.getElem?_eq_getElem hlt) (List.getElem?_eq_getElem hlt2)
      rw [← HR.out] at hcd
      generalize rs[k] = ra at *
      generalize qs[k] = rb at *
      have HE := Lib.hid (fun r : After wr => equal8_any ua ub ra rb r.w 0 0 (hra.step (hbr.trans (r.h.mono hbz)) (Nat.le_refl _)).1 (hrb.step (hbr.trans (r.h.mono hbz)) (Nat.le_refl _)).1)
      obtain ⟨⟨A3, c3, rfl, q1⟩, q2⟩ := hra
      obtain ⟨⟨A4, c4, rfl, q3⟩, q4⟩ := hrb
      have x0 : ∀ r : After wr, r.w.cell? (ad.add k) = some (.slice A3 ra.length c3) := after_cell (by rw [add_block]; omega) d0
      have x1 : ∀ r : After wr, r.w.cell? (ad2.add k) = some (.slice A4 rb.length c4) := after_cell (by rw [add_block]; omega) f0
      have HCD := Lib.hid hcd
      clear q1 q2 q3 q4 c0 b0 d0 f0 hcd
      cases hb : (cmpR ra rb == 0)
      · rw [hb] at HE HCD
        have HF := Lib.hid (show decide (rs = qs) = false by rw [HCD.out]; rfl)
        clear hb HCD
        go_wp2_with fail
        (refine wp_region_after (by kernel_rfl) (by kernel_rfl) ?_; (repeat (go_big_quiet_step ((go_at_call 20; exact calls_after (HE.out _))))); refine wpQuiet_nil ?_; intro wq hw0; obtain ⟨⟨wq0, hbq⟩, hw1⟩ := hw0; subst hw1; (try dsimp only))
        clear x0 x1 HE
        go_wp2
        go_ret
        exact ⟨by rw [HF.out]; rfl, hbr.trans (hbq.mono hbz)⟩
      · rw [hb] at HE HCD
        have HF := Lib.hid (show decide (rs = qs) = decide (rs.drop (k + 1) = qs.drop (k + 1)) by rw [HCD.out]; rfl)
        clear hb HCD
        go_wp2_with fail
        (refine wp_region_after (by kernel_rfl) (by kernel_rfl) ?_; (repeat (go_big_quiet_step ((go_at_call 20; exact calls_after (HE.out _))))); refine wpQuiet_nil ?_; intro wq hw0; obtain ⟨⟨wq0, hbq⟩, hw1⟩ := hw0; subst hw1; (try dsimp only))
        clear x0 x1 HE
        go_wp2
        go_roundw
        case rel => exact ⟨k + 1, by omega, by go_num, HF, hbr.trans (hbq.mono hbz)⟩
        case measure => simp [intOf]; omega
    · have hki : ¬ (k : Int) < rs.length := by omega
      have HF := Lib.hid (show decide (rs = qs) = true by rw [HR.out, List.drop_eq_nil_of_le (by omega), List.drop_eq_nil_of_le (by have := HLN.out; omega)]; rfl)
      go_wp2
      go_ret
      exact ⟨by rw [HF.out]; rfl, hbr⟩
set_option maxRecDepth 100000 in
set_option maxHeartbeats 6400000 in
theorem equalFunc_any (u v : Value) (rs qs : List (List Vl)) (w : World) (hu : RdR w 0 w.heap.size u rs) (hv : RdR w 0 w.heap.size v qs) :
    Calls Tryz.prog 25 #[u, v, .func (.func 19) #[] #[]] w fun e w' => e = .returned (.bool (decide (rs = qs))) ∧ Below w.heap.size w w' := by
  obtain ⟨A, c, rfl, hl1, hc1⟩ := hu
  obtain ⟨A2, c2, rfl, hl2, hc2⟩ := hv
  have HC := Lib.hid hc1
  have HC2 := Lib.hid hc2
  clear hc1 hc2
  by_cases hln : rs.length = qs.length
  rotate_left
  · have hne : ((rs.length : Int) != (qs.length : Int)) = true := by simp; omega
    have HF := Lib.hid (show decide (rs = qs) = false by rw [decide_eq_false_iff_not]; intro e; rw [e] at hln; exact hln rfl)
    go_enter Tryz.func25, Tryz.ntmps25
    go_wp2
    go_ret
    exact ⟨by rw [HF.out]; rfl, Below.refl _ _⟩
  have hne : ((rs.length : Int) != (qs.length : Int)) = false := by simp; omega
  have HLN := Lib.hid hln
  clear hln
  go_enter Tryz.func25, Tryz.ntmps25
  go_wp2
  go_loopw [17] (fun i wr => ∃ k : Nat, k ≤ rs.length ∧ i = .int .i64 k ∧ Hid (decide (rs = qs) = decide (rs.drop k = qs.drop k)) ∧ Below w.heap.size w wr) (fun i _ => rs.length - (intOf i).toNat)
  case atStart => exact ⟨0, Nat.zero_le _, rfl, Lib.hid rfl, Below.refl _ _⟩
  case round =>
    obtain ⟨k, hk, rfl, HR, hbr⟩ := hrel
    have hbz := hbr.size
    by_cases hlt : k < rs.length
    · have hki : (k : Int) < rs.length := by omega
      have hlt2 : k < qs.length := by have := HLN.out; omega
      have hki2 : (k : Int) < qs.length := by omega
      obtain ⟨ad, ua, rfl, _, hab, c0, hra⟩ := HC.out k _ (List.getElem?_eq_getElem hlt)
      obtain ⟨ad2, ub, rfl, _, hab2, b0, hrb⟩ := HC2.out k _ (List.getElem?_eq_getElem hlt2)
      have d0 := (hbr.cell (p := ad.add k) (by rw [add_block]; exact hab)).trans c0
      have f0 := (hbr.cell (p := ad2.add k) (by rw [add_block]; exact hab2)).trans b0
      have hcd := eq_drop (List.getElem?_eq_getElem hlt) (List.getElem?_eq_getElem hlt2)
      rw [← HR.out] at hcd
      generalize rs[k] = ra at *
      generalize qs[k] = rb at *
      have HE := Lib.hid (pEqual_any ua ub ra rb wr 0 0 (hra.step hbr (Nat.le_refl _)).1 (hrb.step hbr (Nat.le_refl _)).1)
      obtain ⟨⟨A3, c3, rfl, q1⟩, q2⟩ := hra
      obtain ⟨⟨A4, c4, rfl, q3⟩, q4⟩ := hrb
      have HCD := Lib.hid hcd
      clear q1 q2 q3 q4 c0 b0 hcd
      cases hb : (cmpR ra rb == 0)
      · rw [hb] at HE HCD
        have HF := Lib.hid (show decide (rs = qs) = false by rw [HCD.out]; rfl)
        clear hb HCD
        go_wp2_with fail
        with_reducible refine HE.out.mono ?_
        rintro e w1 ⟨rfl, hb1⟩
        go_wp2
        go_ret
        exact ⟨by rw [HF.out]; rfl, hbr.trans (hb1.mono hbz)⟩
      · rw [hb] at HE HCD
        have HF := Lib.hid (show decide (rs = qs) = decide (rs.drop (k + 1) = qs.drop (k + 1)) by rw [HCD.out]; rfl)
        clear hb HCD
        go_wp2_with fail
        with_reducible refine HE.out.mono ?_
        rintro e w1 ⟨rfl, hb1⟩
        go_wp2
        go_roundw
        case rel => exact ⟨k + 1, by omega, by go_num, HF, hbr.trans (hb1.mono hbz)⟩
        case measure => simp [intOf]; omega
    · have hki : ¬ (k : Int) < rs.length := by omega
      have HF := Lib.hid (show decide (rs = qs) = true by rw [HR.out, List.drop_eq_nil_of_le (by omega), List.drop_eq_nil_of_le (by have := HLN.out; omega)]; rfl)
      go_wp2
      go_ret
      exact ⟨by rw [HF.out]; rfl, hbr⟩
set_option maxHeartbeats 1600000 in
theorem pSame_any (u v : Value) (rs qs : List (List Vl)) (w : World) (L L2 : Nat) (hu : RdR w L w.heap.size u rs) (hv : RdR w L2 w.heap.size v qs) (hl1 : rs.length ≤ 1099511627776) (hr1 : ∀ r ∈ rs, r.length ≤ 2199023255552) (hl2 : qs.length ≤ 1099511627776) (hr2 : ∀ r ∈ qs, r.length ≤ 2199023255552) :
    Calls Tryz.prog 11 #[u, v] w fun e w' => e = .returned (.bool (decide (sortO [] rs = sortO [] qs))) ∧ Below w.heap.size w w' := by
  have H1 := Lib.hid (pSort_any u rs w L hu hl1 hr1)
  have H2 := Lib.hid (fun W (h : Below w.heap.size w W) => pSort_any v qs W L2 (hv.step h (Nat.le_refl _)) hl2 hr2)
  obtain ⟨A, c, rfl, q1⟩ := hu
  obtain ⟨A2, c2, rfl, q2⟩ := hv
  clear q1 q2
  go_enter Tryz.func11, Tryz.ntmps11
  go_wp2_with fail
  with_reducible refine H1.out.mono ?_
  rintro e w1 ⟨u1, rfl, hR1, hn1, hb1⟩
  have H2' := H2.out w1 hb1
  have HR1 := Lib.hid hR1
  clear H1 H2 hR1 hn1
  go_wp2_with fail
  with_reducible refine H2'.mono ?_
  rintro e w2 ⟨u2, rfl, hR2, hn2, hb2⟩
  have h3 := equalFunc_any u1 u2 _ _ w2 ((HR1.out.step hb2 (Nat.le_refl _)).low (Nat.zero_le _)) (hR2.low (Nat.zero_le _))
  clear H2' hR2 hn2 HR1
  go_wp2_with fail
  with_reducible refine h3.mono ?_
  rintro e w3 ⟨rfl, hb3⟩
  go_wp2
  go_ret
  exact ⟨rfl, (hb1.trans (hb2.mono hb1.size)).trans (hb3.mono (Nat.le_trans hb1.size hb2.size))⟩
set_option maxHeartbeats 800000 in
theorem short_any (v : Value) (rs : List (List Vl)) (w : World) (L : Nat) (hv : RdR w L w.heap.size v rs) :
    Calls Tryz.prog 4 #[v] w fun e w' => e = .returned (.bool (decide (rs.length ≤ 300))) ∧ w' = w := by
  obtain ⟨A, c, rfl, q1⟩ := hv
  clear q1
  by_cases h : rs.length ≤ 300
  · have hi : (rs.length : Int) ≤ 300 := by omega
    rw [decide_eq_true h]
    go_enter Tryz.func4, Tryz.ntmps4
    go_wp2
    go_ret
    exact ⟨rfl, rfl⟩
  · have hi : ¬ (rs.length : Int) ≤ 300 := by omega
    rw [decide_eq_false h]
    go_enter Tryz.func4, Tryz.ntmps4
    go_wp2
    go_ret
    exact ⟨rfl, rfl⟩
end Go.Proofs.YtimmfckkgdlokaaGreatDoor
