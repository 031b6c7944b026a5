/-
  Comparing rows: slices.CompareFunc with value.Compare, tuple.Compare, the reference's Compare and Equal: what they answer. Conditions: lengths.
-/
import Derived.Test.YtclpemmpckjemaaDoorToV
import Derived.Test.YtclpemmpckjemaaDoorCoKm
import Derived.Test.YtclpemmpckjemaaDoorQui
import Derived.WalkKit
import Derived.WalkSpells
import Derived.WalkLawsBesides
import Derived.Deep.QuietTactic
import Derived.BigQuiet
import Derived.Handy
import Derived.Lib.Hide
namespace Go.Proofs.YtclpemmpckjemaaDoor
open Go.RowKit

theorem cmpQ_drop (ps qs : List Vl) (k : Nat) (p q : Vl) (hp : ps[k]? = some p) (hq : qs[k]? = some q) : cmpR (ps.drop k) (qs.drop k) = if cmpP p q = 0 then cmpR (ps.drop (k + 1)) (qs.drop (k + 1)) else cmpP p q := by
  obtain ⟨h1, rfl⟩ := List.getElem?_eq_some_iff.1 hp
  obtain ⟨h2, rfl⟩ := List.getElem?_eq_some_iff.1 hq
  rw [List.drop_eq_getElem_cons h1, List.drop_eq_getElem_cons h2]
  show (if lessP ps[k] qs[k] = true then -1 else if ps[k] = qs[k] then _ else 1) = _
  unfold cmpP
  by_cases h : lessP ps[k] qs[k] = true
  · simp [h]
  · by_cases h3 : ps[k] = qs[k]
    · simp [h3, lessP_irr]
    · simp [h, h3]
theorem cmpQ_end (ps qs : List Vl) (k : Nat) (h : ¬ (k < ps.length ∧ k < qs.length)) : cmpR (ps.drop k) (qs.drop k) = if k < qs.length then -1 else if k < ps.length then 1 else 0 := by
  by_cases h1 : k < ps.length
  · have h2 : ¬ k < qs.length := fun h2 => h ⟨h1, h2⟩
    rw [List.drop_eq_nil_of_le (show qs.length ≤ k by omega), List.drop_eq_getElem_cons h1, if_neg h2, if_pos h1]
    rfl
  · rw [List.drop_eq_nil_of_le (show ps.length ≤ k by omega)]
    by_cases h2 : k < qs.length
    · rw [List.drop_eq_getElem_cons h2, if_pos h2]; rfl
    · rw [List.drop_eq_nil_of_le (show qs.length ≤ k by omega), if_neg h2, if_neg h1]; rfl
theorem cmpP_i64 (p q : Vl) : cmpP p q = -1 ∨ cmpP p q = 0 ∨ cmpP p q = 1 := by
  unfold cmpP
  split
  · exact .inl rfl
  · split
    · exact .inr (.inl rfl)
    · exact .inr (.inr rfl)
theorem own2 {w : World} {t : TypeId} {cs : Array Value} (o : Obj) : Own ((w.alloc o).alloc (.cells cs t)) (w.heap.size + 1) t cs := by
  have h := Own.new (w.alloc o) t cs
  rwa [World.size_alloc] at h
set_option maxRecDepth 100000 in
set_option maxHeartbeats 6400000 in
theorem compareFunc_any (u v : Value) (ps qs : List Vl) (w : World) (L L2 : Nat) (hu : RdV w L w.heap.size u ps) (hv : RdV w L2 w.heap.size v qs) :
    Calls Tryd.prog 13 #[u, v, .func (.func 14) #[] #[]] w fun e w' => e = .returned (.int .i64 (cmpR ps qs)) ∧ Below w.heap.size w w' := by
  obtain ⟨A, c, rfl, hl1, hc1⟩ := hu
  obtain ⟨A2, c2, rfl, hl2, hc2⟩ := hv
  have HC := Lib.hid hc1
  have HC2 := Lib.hid hc2
  clear hc1 hc2
  go_enter Tryd.func13, Tryd.ntmps13
  go_wp2
  go_loopw [13] (fun i wr => ∃ k : Nat, k ≤ ps.length ∧ k ≤ qs.length ∧ i = .int .i64 k ∧ Hid (cmpR ps qs = cmpR (ps.drop k) (qs.drop k)) ∧ Below w.heap.size w wr) (fun i _ => ps.length - (intOf i).toNat)
  case atStart => exact ⟨0, Nat.zero_le _, Nat.zero_le _, rfl, Lib.hid rfl, Below.refl _ _⟩
  case round =>
    obtain ⟨k, hk, hk2, rfl, HR, hbr⟩ := hrel
    have hbz := hbr.size
    by_cases hlt : k < ps.length
    · have hki : (k : Int) < ps.length := by omega
      obtain ⟨ad, rfl, _, hab, c0, c1, c2⟩ := HC.out k _ (List.getElem?_eq_getElem hlt)
      have d0 := (hbr.cell (p := ad.add (k * 3)) (by rw [add_block]; exact hab)).trans c0
      have d1 := (hbr.cell (p := ⟨(ad.add (k * 3)).block, (ad.add (k * 3)).off + 1, none⟩) (by show (ad.add (k * 3)).block < _; rw [add_block]; exact hab)).trans c1
      have d2 := (hbr.cell (p := ⟨(ad.add (k * 3)).block, (ad.add (k * 3)).off + 2, none⟩) (by show (ad.add (k * 3)).block < _; rw [add_block]; exact hab)).trans c2
      by_cases hlt2 : k < qs.length
      · have hki2 : (k : Int) < qs.length := by omega
        have hge : ¬ (k : Int) ≥ qs.length := by omega
        obtain ⟨ad2, rfl, _, hab2, b0, b1, b2⟩ := HC2.out k _ (List.getElem?_eq_getElem hlt2)
        have f0 := (hbr.cell (p := ad2.add (k * 3)) (by rw [add_block]; exact hab2)).trans b0
        have f1 := (hbr.cell (p := ⟨(ad2.add (k * 3)).block, (ad2.add (k * 3)).off + 1, none⟩) (by show (ad2.add (k * 3)).block < _; rw [add_block]; exact hab2)).trans b1
        have f2 := (hbr.cell (p := ⟨(ad2.add (k * 3)).block, (ad2.add (k * 3)).off + 2, none⟩) (by show (ad2.add (k * 3)).block < _; rw [add_block]; exact hab2)).trans b2
        have hcd := cmpQ_drop ps qs k _ _ (List.getElem?_eq_getElem hlt) (List.getElem?_eq_getElem hlt2)
        rw [← HR.out] at hcd
        have hcc := fun W => pCmp_any ps[k] qs[k] W
        have hi := cmpP_i64 ps[k] qs[k]
        generalize cmpP ps[k] qs[k] = d at *
        generalize ps[k] = p at *
        generalize qs[k] = q at *
        obtain ⟨kd, n, s⟩ := p
        obtain ⟨kd2, n2, s2⟩ := q
        unfold valV at hcc
        dsimp only at d0 d1 d2 f0 f1 f2 hcc
        have hd : Below wr.heap.size wr ((wr.alloc (.cells #[.int .i64 kd, .int .i64 n, .string s] 24)).alloc (.cells #[.int .i64 kd2, .int .i64 n2, .string s2] 24)) := (bel_mark wr _).trans ((bel_mark _ _).mono (bel_mark wr _).size)
        have hBB := Lib.hid (hbr.trans (hd.mono hbz))
        have hdz := Nat.le_trans hbz hd.size
        have HCC := Lib.hid hcc
        have f0 := ((bel_mark wr (.cells #[.int .i64 kd, .int .i64 n, .string s] 24)).cell (p := ad2.add (k * 3)) (by rw [add_block]; omega)).trans f0
        have f1 := ((bel_mark wr (.cells #[.int .i64 kd, .int .i64 n, .string s] 24)).cell (p := ⟨(ad2.add (k * 3)).block, (ad2.add (k * 3)).off + 1, none⟩) (by show (ad2.add (k * 3)).block < _; rw [add_block]; omega)).trans f1
        have f2 := ((bel_mark wr (.cells #[.int .i64 kd, .int .i64 n, .string s] 24)).cell (p := ⟨(ad2.add (k * 3)).block, (ad2.add (k * 3)).off + 2, none⟩) (by show (ad2.add (k * 3)).block < _; rw [add_block]; omega)).trans f2
        clear c0 c1 c2 b0 b1 b2 hcc hd
        rcases hi with rfl | rfl | rfl
        · have HF := Lib.hid (hcd.trans (if_neg (by decide)))
          clear hcd
          go_wp2_with fail
          with_reducible refine (HCC.out _).mono ?_
          rintro e w1 ⟨rfl, hb1⟩
          go_wp2
          go_ret
          exact ⟨by rw [HF.out]; rfl, hBB.out.trans (hb1.mono hdz)⟩
        · have HF := Lib.hid (hcd.trans (if_pos rfl))
          clear hcd
          go_wp2_with fail
          with_reducible refine (HCC.out _).mono ?_
          rintro e w1 ⟨rfl, hb1⟩
          go_wp2
          go_round
          case rel => exact ⟨k + 1, by omega, by omega, by go_num, HF, hBB.out.trans (hb1.mono hdz)⟩
          case measure => simp [intOf]; omega
        · have HF := Lib.hid (hcd.trans (if_neg (by decide)))
          clear hcd
          go_wp2_with fail
          with_reducible refine (HCC.out _).mono ?_
          rintro e w1 ⟨rfl, hb1⟩
          go_wp2
          go_ret
          exact ⟨by rw [HF.out]; rfl, hBB.out.trans (hb1.mono hdz)⟩
      · have hge : (k : Int) ≥ qs.length := by omega
        have hce := cmpQ_end ps qs k (fun h => hlt2 h.2)
        rw [← HR.out] at hce
        have HF := Lib.hid ((hce.trans (if_neg hlt2)).trans (if_pos hlt))
        generalize ps[k] = p at *
        obtain ⟨kd, n, s⟩ := p
        dsimp only at d0 d1 d2
        clear c0 c1 c2 hce hlt2
        go_wp2
        go_ret
        exact ⟨by rw [HF.out]; rfl, hbr.trans ((bel_mark wr _).mono hbz)⟩
    · have hki : ¬ (k : Int) < ps.length := by omega
      have hce := cmpQ_end ps qs k (fun h => hlt h.1)
      rw [← HR.out] at hce
      by_cases h1 : k < qs.length
      · have HF := Lib.hid (hce.trans (if_pos h1))
        have t2 : (ps.length : Int) < qs.length := by omega
        clear hce
        go_wp2
        go_ret
        exact ⟨by rw [HF.out]; rfl, hbr⟩
      · have HF := Lib.hid ((hce.trans (if_neg h1)).trans (if_neg hlt))
        have t2 : ¬ (ps.length : Int) < qs.length := by omega
        clear hce
        go_wp2
        go_ret
        exact ⟨by rw [HF.out]; rfl, hbr⟩
set_option maxHeartbeats 800000 in
theorem tupleCompare_any (u v : Value) (ps qs : List Vl) (w : World) (L L2 : Nat) (hu : RdV w L w.heap.size u ps) (hv : RdV w L2 w.heap.size v qs) :
    Calls Tryd.prog 4 #[u, v] w fun e w' => e = .returned (.int .i64 (cmpR ps qs)) ∧ Below w.heap.size w w' := by
  have H := Lib.hid (compareFunc_any u v ps qs w L L2 hu hv)
  obtain ⟨A, c, rfl, _⟩ := hu
  obtain ⟨A2, c2, rfl, _⟩ := hv
  go_enter Tryd.func4, Tryd.ntmps4
  go_wp2_with fail
  with_reducible refine H.out.mono ?_
  rintro e w1 ⟨rfl, hb⟩
  go_wp2
  go_ret
  exact ⟨rfl, hb⟩
set_option maxRecDepth 100000 in
set_option maxHeartbeats 6400000 in
theorem rCompare8_any (u v : Value) (ps qs : List Vl) (w : World) (L L2 : Nat) (hu : RdV w L w.heap.size u ps) (hv : RdV w L2 w.heap.size v qs) :
    Calls Tryd.prog 27 #[u, v] w fun e w' => e = .returned (.int .i64 (cmpR ps qs)) ∧ Below w.heap.size w w' := by
  obtain ⟨A, c, rfl, hl1, hc1⟩ := hu
  obtain ⟨A2, c2, rfl, hl2, hc2⟩ := hv
  have HC := Lib.hid hc1
  have HC2 := Lib.hid hc2
  clear hc1 hc2
  go_enter Tryd.func27, Tryd.ntmps27
  go_wp2
  go_loopw [5] (fun i wr => ∃ k : Nat, k ≤ ps.length ∧ k ≤ qs.length ∧ i = .int .i64 k ∧ Hid (cmpR ps qs = cmpR (ps.drop k) (qs.drop k)) ∧ Below w.heap.size w wr) (fun i _ => ps.length - (intOf i).toNat)
  case atStart => exact ⟨0, Nat.zero_le _, Nat.zero_le _, rfl, Lib.hid rfl, Below.refl _ _⟩
  case round =>
    obtain ⟨k, hk, hk2, rfl, HR, hbr⟩ := hrel
    have hbz := hbr.size
    by_cases hlt : k < ps.length ∧ k < qs.length
    · obtain ⟨hlt, hlt2⟩ := hlt
      have hki : (k : Int) < ps.length := by omega
      have hki2 : (k : Int) < qs.length := by omega
      obtain ⟨ad, rfl, _, hab, c0, c1, c2⟩ := HC.out k _ (List.getElem?_eq_getElem hlt)
      obtain ⟨ad2, rfl, _, hab2, b0, b1, b2⟩ := HC2.out k _ (List.getElem?_eq_getElem hlt2)
      have d0 := (hbr.cell (p := ad.add (k * 3)) (by rw [add_block]; exact hab)).trans c0
      have d1 := (hbr.cell (p := ⟨(ad.add (k * 3)).block, (ad.add (k * 3)).off + 1, none⟩) (by show (ad.add (k * 3)).block < _; rw [add_block]; exact hab)).trans c1
      have d2 := (hbr.cell (p := ⟨(ad.add (k * 3)).block, (ad.add (k * 3)).off + 2, none⟩) (by show (ad.add (k * 3)).block < _; rw [add_block]; exact hab)).trans c2
      have f0 := (hbr.cell (p := ad2.add (k * 3)) (by rw [add_block]; exact hab2)).trans b0
      have f1 := (hbr.cell (p := ⟨(ad2.add (k * 3)).block, (ad2.add (k * 3)).off + 1, none⟩) (by show (ad2.add (k * 3)).block < _; rw [add_block]; exact hab2)).trans b1
      have f2 := (hbr.cell (p := ⟨(ad2.add (k * 3)).block, (ad2.add (k * 3)).off + 2, none⟩) (by show (ad2.add (k * 3)).block < _; rw [add_block]; exact hab2)).trans b2
      have hcd := cmpQ_drop ps qs k _ _ (List.getElem?_eq_getElem hlt) (List.getElem?_eq_getElem hlt2)
      rw [← HR.out] at hcd
      have hcc := fun W => rCmp_any ps[k] qs[k] W
      have hi := cmpP_i64 ps[k] qs[k]
      generalize cmpP ps[k] qs[k] = d at *
      generalize ps[k] = p at *
      generalize qs[k] = q at *
      obtain ⟨kd, n, s⟩ := p
      obtain ⟨kd2, n2, s2⟩ := q
      unfold valV at hcc
      dsimp only at d0 d1 d2 f0 f1 f2 hcc
      have g0 : ∀ p : After wr, p.w.cell? (ad.add (k * 3)) = some (.int .i64 kd) := after_cell (by rw [add_block]; omega) d0
      have g1 : ∀ p : After wr, p.w.cell? ⟨(ad.add (k * 3)).block, (ad.add (k * 3)).off + 1, none⟩ = some (.int .i64 n) := after_cell (by show (ad.add (k * 3)).block < _; rw [add_block]; omega) d1
      have g2 : ∀ p : After wr, p.w.cell? ⟨(ad.add (k * 3)).block, (ad.add (k * 3)).off + 2, none⟩ = some (.string s) := after_cell (by show (ad.add (k * 3)).block < _; rw [add_block]; omega) d2
      have j0 : ∀ p : After wr, p.w.cell? (ad2.add (k * 3)) = some (.int .i64 kd2) := after_cell (by rw [add_block]; omega) f0
      have j1 : ∀ p : After wr, p.w.cell? ⟨(ad2.add (k * 3)).block, (ad2.add (k * 3)).off + 1, none⟩ = some (.int .i64 n2) := after_cell (by show (ad2.add (k * 3)).block < _; rw [add_block]; omega) f1
      have j2 : ∀ p : After wr, p.w.cell? ⟨(ad2.add (k * 3)).block, (ad2.add (k * 3)).off + 2, none⟩ = some (.string s2) := after_cell (by show (ad2.add (k * 3)).block < _; rw [add_block]; omega) f2
      have HCC := Lib.hid hcc
      have HI := Lib.hid hi
      have HCD := Lib.hid hcd
      clear c0 c1 c2 b0 b1 b2 d0 d1 d2 f0 f1 f2 hcc hi hcd
      go_wp2_with fail
      (refine wp_region_after (by kernel_rfl) (by kernel_rfl) ?_; (repeat (go_big_quiet_step ((go_at_call 41; exact calls_after (HCC.out _))))); refine wpQuiet_nil ?_; intro wq hw0; obtain ⟨⟨wq0, hbq⟩, hw1⟩ := hw0; subst hw1; (try dsimp only))
      clear g0 g1 g2 j0 j1 j2 HCC
      have HB := Lib.hid (hbr.trans (hbq.mono hbz))
      rcases HI.out with rfl | rfl | rfl
      · have HF := Lib.hid (HCD.out.trans (if_neg (by decide)))
        clear HCD HI
        go_wp2
        go_ret
        exact ⟨by rw [HF.out]; rfl, HB.out⟩
      · have HF := Lib.hid (HCD.out.trans (if_pos rfl))
        clear HCD HI
        go_wp2
        go_round
        case rel => exact ⟨k + 1, by omega, by omega, by go_num, HF, HB.out⟩
        case measure => simp [intOf]; omega
      · have HF := Lib.hid (HCD.out.trans (if_neg (by decide)))
        clear HCD HI
        go_wp2
        go_ret
        exact ⟨by rw [HF.out]; rfl, HB.out⟩
    · skip
      have hce := cmpQ_end ps qs k hlt
      rw [← HR.out] at hce
      by_cases h1 : k < qs.length
      · have h2 : ¬ k < ps.length := fun h2 => hlt ⟨h2, h1⟩
        have HF := Lib.hid (hce.trans (if_pos h1))
        have t1 : ¬ (k : Int) < ps.length := by omega
        have t2 : (ps.length : Int) < qs.length := by omega
        clear hce hlt
        go_wp2
        go_ret
        exact ⟨by rw [HF.out]; rfl, hbr⟩
      · by_cases h2 : k < ps.length
        · have HF := Lib.hid ((hce.trans (if_neg h1)).trans (if_pos h2))
          have t0 : (k : Int) < ps.length := by omega
          have t1 : ¬ (k : Int) < qs.length := by omega
          have t2 : ¬ (ps.length : Int) < qs.length := by omega
          have t3 : (ps.length : Int) > qs.length := by omega
          clear hce hlt
          go_wp2
          go_ret
          exact ⟨by rw [HF.out]; rfl, hbr⟩
        · have HF := Lib.hid ((hce.trans (if_neg h1)).trans (if_neg h2))
          have t1 : ¬ (k : Int) < ps.length := by omega
          have t2 : ¬ (ps.length : Int) < qs.length := by omega
          have t3 : ¬ (ps.length : Int) > qs.length := by omega
          clear hce hlt
          go_wp2
          go_ret
          exact ⟨by rw [HF.out]; rfl, hbr⟩
set_option maxHeartbeats 800000 in
theorem equal8_any (u v : Value) (ps qs : List Vl) (w : World) (L L2 : Nat) (hu : RdV w L w.heap.size u ps) (hv : RdV w L2 w.heap.size v qs) :
    Calls Tryd.prog 12 #[u, v] w fun e w' => e = .returned (.bool (cmpR ps qs == 0)) ∧ Below w.heap.size w w' := by
  have H := Lib.hid (rCompare8_any u v ps qs w L L2 hu hv)
  obtain ⟨A, c, rfl, _⟩ := hu
  obtain ⟨A2, c2, rfl, _⟩ := hv
  go_enter Tryd.func12, Tryd.ntmps12
  go_wp2_with fail
  with_reducible refine H.out.mono ?_
  rintro e w1 ⟨rfl, hb⟩
  go_wp2
  go_ret
  exact ⟨rfl, hb⟩
end Go.Proofs.YtclpemmpckjemaaDoor
