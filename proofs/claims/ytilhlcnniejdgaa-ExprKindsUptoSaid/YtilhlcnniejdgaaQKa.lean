import Derived.Test.YtilhlcnniejdgaaMT
import Derived.Test.YtilhlcnniejdgaaMC
import Derived.WalkKit
import Derived.WalkSpells
import Derived.WalkLawsBesides
import Derived.Deep.QuietTactic
import Derived.BigQuiet
import Derived.Handy
import Derived.Lib.Hide
import Derived.Test.YtilhlcnniejdgaaQY
import Derived.Test.YtilhlcnniejdgaaQN
import Derived.Test.YtilhlcnniejdgaaQW
/-
  Fits of the reference: what it answers. Conditions: lengths.
-/
namespace Go.Proofs.Ytilhlcnniejdgaa
set_option linter.unusedVariables false
set_option linter.unusedSimpArgs false
set_option maxRecDepth 100000
open Go.RowKit

set_option maxRecDepth 100000 in
set_option maxHeartbeats 6400000 in
theorem rFits_any (u v : Value) (ps : List Vl) (zs : List Int) (w : World) (L L2 : Nat) (hu : RdV w L w.heap.size u ps) (hv : RdI w L2 w.heap.size v zs) :
    Calls Try.prog 26 #[u, v] w fun e w' => e = .returned (.bool (fitsF ps zs)) ∧ Below w.heap.size w w' := by
  obtain ⟨A, c, rfl, hl1, hc1⟩ := hu
  obtain ⟨A2, c2, rfl, hl2, hc2⟩ := hv
  have HC := Lib.hid hc1
  have HC2 := Lib.hid hc2
  clear hc1 hc2
  by_cases hln : ps.length = zs.length
  rotate_left
  · have hne : ¬ (ps.length : Int) = zs.length := by omega
    have HF := Lib.hid (show fitsF ps zs = false by simp [fitsF, hln])
    go_enter Try.func26, Try.ntmps26
    go_wp2
    go_ret
    exact ⟨by rw [HF.out]; rfl, Below.refl _ _⟩
  have HF0 := Lib.hid (show fitsF ps zs = fitL ps zs by simp [fitsF, hln])
  have hni : (ps.length : Int) = zs.length := by omega
  go_enter Try.func26, Try.ntmps26
  go_wp2
  go_loopw [5] (fun i wr => ∃ k : Nat, k ≤ ps.length ∧ i = .int .i64 k ∧ Hid (fitL ps zs = fitL (ps.drop k) (zs.drop k)) ∧ Below w.heap.size w wr) (fun i _ => ps.length - (intOf i).toNat)
  case atStart => exact ⟨0, Nat.zero_le _, rfl, Lib.hid rfl, Below.refl _ _⟩
  case round =>
    obtain ⟨k, hk, rfl, HR, hbr⟩ := hrel
    have hbz := hbr.size
    by_cases hlt : k < ps.length
    · have hki : (k : Int) < ps.length := by omega
      have hlt2 : k < zs.length := by omega
      have hki2 : (k : Int) < zs.length := by omega
      obtain ⟨ad, rfl, _, hab, c0, c1, c2'⟩ := HC.out k _ (List.getElem?_eq_getElem hlt)
      obtain ⟨ad2, rfl, _, hab2, b0⟩ := HC2.out k _ (List.getElem?_eq_getElem hlt2)
      have d0 := (hbr.cell (p := ad.add (k * 3)) (by rw [add_block]; exact hab)).trans c0
      have d1 := (hbr.cell (p := ⟨(ad.add (k * 3)).block, (ad.add (k * 3)).off + 1, none⟩) (by show (ad.add (k * 3)).block < _; rw [add_block]; exact hab)).trans c1
      have d2 := (hbr.cell (p := ⟨(ad.add (k * 3)).block, (ad.add (k * 3)).off + 2, none⟩) (by show (ad.add (k * 3)).block < _; rw [add_block]; exact hab)).trans c2'
      have f0 := (hbr.cell (p := ad2.add k) (by rw [add_block]; exact hab2)).trans b0
      have hcd := fitL_drop ps zs k _ _ (List.getElem?_eq_getElem hlt) (List.getElem?_eq_getElem hlt2)
      rw [← HR.out] at hcd
      generalize ps[k] = p at *
      generalize zs[k] = z at *
      obtain ⟨kd, n, s⟩ := p
      have hkk := fun W => rValid7_any kd n s W
      unfold valV at hkk
      dsimp only at d0 d1 d2 hkk
      have HCD := Lib.hid hcd
      have x0 : ∀ r : After wr, r.w.cell? (ad.add (k * 3)) = some (.int .i64 kd) := after_cell (by rw [add_block]; omega) d0
      have x1 : ∀ r : After wr, r.w.cell? ⟨(ad.add (k * 3)).block, (ad.add (k * 3)).off + 1, none⟩ = some (.int .i64 n) := after_cell (by show (ad.add (k * 3)).block < _; rw [add_block]; omega) d1
      have x2 : ∀ r : After wr, r.w.cell? ⟨(ad.add (k * 3)).block, (ad.add (k * 3)).off + 2, none⟩ = some (.string s) := after_cell (by show (ad.add (k * 3)).block < _; rw [add_block]; omega) d2
      have x3 : ∀ r : After wr, r.w.cell? (ad2.add k) = some (.int .i64 z) := after_cell (by rw [add_block]; omega) f0
      have HB := Lib.hid hbr
      have zX := hbz
      clear c0 c1 c2' b0 hcd d0 d1 d2 f0 hbr
      go_wp2_with fail
      cases ho : okP (kd, n, s)
      · rw [ho] at hkk
        have HKK := Lib.hid hkk
        have HF := Lib.hid (show fitsF ps zs = false by rw [HF0.out, HCD.out]; simp [fitP, ho])
        clear hkk ho HCD HF0
        (refine wp_region_after (by kernel_rfl) (by kernel_rfl) ?_; (repeat (go_big_quiet_step ((go_at_call 27; exact calls_after (HKK.out _))))); refine wpQuiet_nil ?_; intro wq hw0; obtain ⟨⟨wq0, hbq⟩, hw1⟩ := hw0; subst hw1; (try dsimp only))
        clear x0 x1 x2 x3 HKK
        go_wp2
        go_ret
        exact ⟨by rw [HF.out]; rfl, HB.out.trans (hbq.mono zX)⟩
      · rw [ho] at hkk
        have HKK := Lib.hid hkk
        by_cases h1 : kd = 0
        · have HF := Lib.hid (show fitL ps zs = fitL (ps.drop (k + 1)) (zs.drop (k + 1)) by rw [HCD.out, show fitP (kd, n, s) z = true by unfold fitP; rw [ho]; simp [h1], Bool.true_and])
          have e1 : (kd != 0) = false := by simp [h1]
          clear hkk ho HCD h1
          (refine wp_region_after (by kernel_rfl) (by kernel_rfl) ?_; (repeat (go_big_quiet_step ((go_at_call 27; exact calls_after (HKK.out _))))); refine wpQuiet_nil ?_; intro wq hw0; obtain ⟨⟨wq0, hbq⟩, hw1⟩ := hw0; subst hw1; (try dsimp only))
          clear x0 x1 x2 x3 HKK
          have HB2 := Lib.hid (HB.out.trans (hbq.mono zX))
          go_wp2
          go_round
          case rel => exact ⟨k + 1, by omega, by go_num, HF, HB2.out⟩
          case measure => simp [intOf]; omega
        · by_cases h2 : kd = z
          · have HF := Lib.hid (show fitL ps zs = fitL (ps.drop (k + 1)) (zs.drop (k + 1)) by rw [HCD.out, show fitP (kd, n, s) z = true by unfold fitP; rw [ho]; simp [h2], Bool.true_and])
            have e1 : (kd != 0) = true := by simp [h1]
            have e2 : (kd != z) = false := by simp [h2]
            clear hkk ho HCD h1 h2
            (refine wp_region_after (by kernel_rfl) (by kernel_rfl) ?_; (repeat (go_big_quiet_step ((go_at_call 27; exact calls_after (HKK.out _))))); refine wpQuiet_nil ?_; intro wq hw0; obtain ⟨⟨wq0, hbq⟩, hw1⟩ := hw0; subst hw1; (try dsimp only))
            clear x0 x1 x2 x3 HKK
            have HB2 := Lib.hid (HB.out.trans (hbq.mono zX))
            go_wp2
            go_round
            case rel => exact ⟨k + 1, by omega, by go_num, HF, HB2.out⟩
            case measure => simp [intOf]; omega
          · have HF := Lib.hid (show fitsF ps zs = false by rw [HF0.out, HCD.out]; simp [fitP, ho, h1, h2])
            have e1 : (kd != 0) = true := by simp [h1]
            have e2 : (kd != z) = true := by simp [h2]
            clear hkk ho HCD HF0 h1 h2
            (refine wp_region_after (by kernel_rfl) (by kernel_rfl) ?_; (repeat (go_big_quiet_step ((go_at_call 27; exact calls_after (HKK.out _))))); refine wpQuiet_nil ?_; intro wq hw0; obtain ⟨⟨wq0, hbq⟩, hw1⟩ := hw0; subst hw1; (try dsimp only))
            clear x0 x1 x2 x3 HKK
            go_wp2
            go_ret
            exact ⟨by rw [HF.out]; rfl, HB.out.trans (hbq.mono zX)⟩
    · have hki : ¬ (k : Int) < ps.length := by omega
      have HF := Lib.hid (show fitsF ps zs = true by rw [HF0.out, HR.out, fitL_end _ _ _ hlt])
      clear HR HF0
      go_wp2
      go_ret
      exact ⟨by rw [HF.out]; rfl, hbr⟩
end Go.Proofs.Ytilhlcnniejdgaa
/-
  The kind of an expression's value: the mathematics. Conditions: none.
-/
namespace Go.Proofs.Ytilhlcnniejdgaa
set_option linter.unusedVariables false
set_option linter.unusedSimpArgs false
set_option maxRecDepth 100000
open Go.RowKit

theorem join_some : ∀ (zs : List Int) (r k : Int), joinK r zs = some k → (r = 0 ∨ r = k) ∧ ∀ z ∈ zs, z = 0 ∨ z = k
  | [], r, k, h => by
    unfold joinK at h
    injection h with h
    exact ⟨.inr h, fun z hz => by simp at hz⟩
  | y :: zs, r, k, h => by
    unfold joinK at h
    by_cases y0 : y = 0
    · rw [if_pos y0] at h
      obtain ⟨h1, h2⟩ := join_some zs r k h
      exact ⟨h1, fun z hz => by rcases List.mem_cons.1 hz with rfl | hz; exact .inl y0; exact h2 z hz⟩
    · rw [if_neg y0] at h
      by_cases hr : r ≠ 0 ∧ y ≠ r
      · rw [if_pos hr] at h; cases h
      · rw [if_neg hr] at h
        obtain ⟨h1, h2⟩ := join_some zs y k h
        have hy : y = k := h1.resolve_left y0
        refine ⟨?_, fun z hz => by rcases List.mem_cons.1 hz with rfl | hz; exact .inr hy; exact h2 z hz⟩
        by_cases r0 : r = 0
        · exact .inl r0
        · by_cases hyr : y = r
          · exact .inr (hyr.symm.trans hy)
          · exact absurd ⟨r0, hyr⟩ hr
/-- The value p is of the kind k, or the null. -/
def kOf (p : Vl) (k : Int) : Prop := p.1 = k ∨ p.1 = 0
theorem k_null (k : Int) : kOf nullP k := .inr rfl
theorem k_nrm {p : Vl} {k : Int} (h : kOf p k) : kOf (nrmP p) k := by
  unfold nrmP
  split
  · exact h
  · exact k_null k
theorem k_int (n : Int) : kOf (intP n) 1 := k_nrm (.inl rfl)
theorem k_txt (s : ByteArray) : kOf (txtP s) 2 := k_nrm (.inl rfl)
theorem k_boo (b : Bool) : kOf (booP b) 3 := .inl rfl
theorem k_of (t : Int) : kOf (ofP t) 3 := by
  unfold ofP
  split
  · exact k_boo _
  · split
    · exact k_boo _
    · exact k_null _
theorem k_mul (x y : Int) : kOf (mulP x y) 1 := by
  unfold mulP
  split
  · exact k_null _
  · exact k_int _
theorem k_ari (op : Int) (p q : Vl) : kOf (ariP op p q) 1 := by
  unfold ariP
  repeat' (first | exact k_int _ | exact k_null _ | exact k_mul _ _ | split)
theorem k_cat (p q : Vl) : kOf (catP p q) 2 := by
  unfold catP
  split
  · exact k_txt _
  · exact k_null _
theorem k_len (p : Vl) : kOf (lenP p) 1 := by
  unfold lenP
  split
  · exact k_int _
  · exact k_null _
theorem k_rel (n : Int) (l : List Vl) : kOf (relP n l) 3 := by
  unfold relP
  repeat' (first | exact k_boo _ | exact k_null _ | split)
theorem k_fst (k : Int) : ∀ l : List Vl, (∀ p ∈ l, kOf p k) → kOf (fstP l) k
  | [], _ => k_null k
  | p :: l, h => by
    unfold fstP
    split
    · exact k_fst k l fun q hq => h q (List.mem_cons_of_mem _ hq)
    · exact h p (List.mem_cons_self ..)
theorem fin_eq {p : Int × Bool} {k : Int} (h : finX p = (k, 0)) : p.2 = true ∧ p.1 = k := by
  unfold finX at h
  cases hp : p.2
  · rw [hp] at h; simp at h
  · rw [hp] at h; simp at h; exact ⟨rfl, h⟩
theorem ers_zero (f : Ex → Int × Int) : ∀ es : List Ex, ersK f es = 0 → ∀ a ∈ es, (f a).2 = 0
  | [], _, a, ha => by simp at ha
  | e :: es, h, a, ha => by
    unfold ersK at h
    by_cases h0 : (f e).2 = 0
    · rw [if_pos h0] at h
      rcases List.mem_cons.1 ha with rfl | ha
      · exact h0
      · exact ers_zero f es h a ha
    · rw [if_neg h0] at h; exact absurd h h0
theorem get_kind {es : List Ex} {f : Ex → Int × Int} {g : Ex → Vl} {k : Int} {i : Nat} (hk : ∀ a ∈ es, kOf (g a) (f a).1) (hi : i < es.length) (hz : (es.map fun a => (f a).1)[i]? = some k) : kOf (getP (es.map g) i) k := by
  unfold getP
  rw [List.getD_eq_getElem?_getD, List.getElem?_map, List.getElem?_eq_getElem hi]
  rw [List.getElem?_map, List.getElem?_eq_getElem hi] at hz
  have h := hk es[i] (List.getElem_mem hi)
  simp only [Option.map_some, Option.some.injEq] at hz
  rw [hz] at h
  exact h
theorem wf_one {n k m : Int} {s nm : ByteArray} {l : Nat} (h : wfE 21 n k m s nm l = true) : l = 1 := by
  unfold wfE at h
  simp only [Bool.and_eq_true, decide_eq_true_eq] at h
  have h1 : opLo 21 = 1 := rfl
  have h2 : opHi 21 = 1 := rfl
  omega
theorem kinds_ok (row : List Vl) (zs : List Int) (hlen : row.length = zs.length) (hfit : ∀ (i : Nat) (p : Vl) (z : Int), row[i]? = some p → zs[i]? = some z → kOf p z) :
    ∀ (d : Nat) (e : Ex) (k : Int), kndE zs d e = (k, 0) → kOf (evE row d e) k
  | 0, e, k, _ => k_null k
  | d + 1, e, k, h => by
    unfold kndE at h
    by_cases hx : exK e zs.length ≠ 0
    · rw [if_pos hx] at h
      injection h with _ h2
      exact absurd h2 hx
    rw [if_neg hx] at h
    have hx0 : exK e zs.length = 0 := by simpa using hx
    obtain ⟨hwf, hidx⟩ := exK_wf hx0
    by_cases he : ersK (kndE zs d) e.args ≠ 0
    · rw [if_pos he] at h
      injection h with _ h2
      exact absurd h2 he
    rw [if_neg he] at h
    have he0 := ers_zero (kndE zs d) e.args (by simpa using he)
    have hk : ∀ a ∈ e.args, kOf (evE row d a) (kndE zs d a).1 := fun a ha => kinds_ok row zs hlen hfit d a _ (Prod.ext rfl (he0 a ha))
    unfold evE
    rw [if_pos hwf]
    by_cases o1 : e.op = 1
    · rw [if_pos o1] at h
      injection h with h1 _
      unfold opE
      rw [if_pos o1]
      exact .inl h1
    rw [if_neg o1] at h
    by_cases o2 : e.op = 2
    · rw [if_pos o2] at h
      injection h with h1 _
      unfold opE
      rw [if_neg o1, if_pos o2]
      have hi := hidx o2
      unfold idxB at hi
      simp only [Bool.and_eq_true, decide_eq_true_eq] at hi
      obtain ⟨j, hj⟩ := Int.eq_ofNat_of_zero_le hi.1
      rw [hj] at h1 hi ⊢
      rw [Int.toNat_natCast] at h1
      have hjz : j < zs.length := by omega
      have hjr : j < row.length := by omega
      unfold colP
      rw [if_pos (by omega), Int.toNat_natCast, List.getElem?_eq_getElem hjr]
      dsimp only
      rw [List.getD_eq_getElem?_getD, List.getElem?_eq_getElem hjz] at h1
      rw [← h1]
      exact k_nrm (hfit j _ _ (List.getElem?_eq_getElem hjr) (List.getElem?_eq_getElem hjz))
    rw [if_neg o2] at h
    have hkn : knw e.op = true := by unfold wfE at hwf; simp only [Bool.and_eq_true] at hwf; exact hwf.1.1.1
    rw [res_same hkn o1 o2 (fun ho => by rw [List.length_map]; rw [ho] at hwf; exact wf_one hwf) (fun ho => by rw [List.length_map]; rw [ho] at hwf; exact wf_if hwf)] at h
    obtain ⟨h2, h1⟩ := fin_eq h
    unfold opE
    rw [if_neg o1, if_neg o2]
    unfold resX at h1 h2
    rcases knw_c hkn with ho | ho | ho | ho | ho | ho | ho | ho | ho | ho | ho
    · exact absurd ho o1
    · exact absurd ho o2
    · rw [if_pos ho] at h1 ⊢
      rw [← h1]; exact k_of _
    · rw [if_neg (by omega), if_pos ho] at h1 ⊢
      rw [← h1]; exact k_of _
    · rw [if_neg (by omega), if_neg (by omega), if_pos ho] at h1
      rw [if_neg (by omega), if_neg (by omega)]
      rw [← h1]
      by_cases h18 : e.op = 18
      · rw [if_neg (by omega), if_pos h18]; exact k_ari _ _ _
      · rw [if_pos (by omega)]; exact k_ari _ _ _
    · rw [ho] at h1 ⊢
      rw [← h1]; exact k_cat _ _
    · rw [ho] at h1 ⊢
      rw [← h1]; exact k_len _
    · rw [ho] at h1 ⊢
      rw [← h1]; exact k_boo _
    · rw [ho] at h1 h2 hwf ⊢
      have h3 := wf_if hwf
      have hd : ((e.args.map fun a => (kndE zs d a).1).drop 1).length = 2 := by rw [List.length_drop, List.length_map, h3]
      obtain ⟨q0, q1, q2, hq⟩ : ∃ q0 q1 q2, (e.args.map fun a => (kndE zs d a).1) = [q0, q1, q2] := by
        have hl : (e.args.map fun a => (kndE zs d a).1).length = 3 := by rw [List.length_map, h3]
        match (e.args.map fun a => (kndE zs d a).1), hl with
        | [q0, q1, q2], _ => exact ⟨q0, q1, q2, rfl⟩
      have hg1 := get_kind (i := 1) (k := q1) hk (by omega) (by rw [hq]; rfl)
      have hg2 := get_kind (i := 2) (k := q2) hk (by omega) (by rw [hq]; rfl)
      rw [hq] at h1 h2
      change (joinK 0 [q1, q2]).getD 0 = k at h1
      change ((joinK 0 [q1, q2]).isSome && allK 3 [q0]) = true at h2
      cases hj : joinK 0 [q1, q2] with
      | none => rw [hj] at h2; simp at h2
      | some k' =>
        rw [hj] at h1
        have h1' : k' = k := h1
        subst h1'
        obtain ⟨_, hm⟩ := join_some _ _ _ hj
        have m1 := hm q1 (by simp)
        have m2 := hm q2 (by simp)
        change kOf (if truP (getP (e.args.map (evE row d)) 0) = 2 then getP (e.args.map (evE row d)) 1 else getP (e.args.map (evE row d)) 2) k'
        split
        · rcases hg1 with hg | hg
          · rcases m1 with m | m
            · exact .inr (hg.trans m)
            · exact .inl (hg.trans m)
          · exact .inr hg
        · rcases hg2 with hg | hg
          · rcases m2 with m | m
            · exact .inr (hg.trans m)
            · exact .inl (hg.trans m)
          · exact .inr hg
    · rw [ho] at h1 h2 ⊢
      change (joinK 0 (e.args.map fun a => (kndE zs d a).1)).getD 0 = k at h1
      change (joinK 0 (e.args.map fun a => (kndE zs d a).1)).isSome = true at h2
      cases hj : joinK 0 (e.args.map fun a => (kndE zs d a).1) with
      | none => rw [hj] at h2; simp at h2
      | some k' =>
        rw [hj] at h1
        have h1' : k' = k := h1
        subst h1'
        obtain ⟨_, hm⟩ := join_some _ _ _ hj
        refine k_fst k' _ fun p hp => ?_
        obtain ⟨a, ha, rfl⟩ := List.mem_map.1 hp
        have hg := hk a ha
        have m := hm (kndE zs d a).1 (List.mem_map_of_mem (f := fun a => (kndE zs d a).1) ha)
        rcases hg with hg | hg
        · rcases m with m | m
          · exact .inr (hg.trans m)
          · exact .inl (hg.trans m)
        · exact .inr hg
    · rw [ho] at h1 ⊢
      rw [← h1]; exact k_rel _ _
end Go.Proofs.Ytilhlcnniejdgaa
/-
  The walk of the statement ExprKinds. Conditions: a bounded depth.
-/
namespace Go.Proofs.Ytilhlcnniejdgaa
set_option linter.unusedVariables false
set_option linter.unusedSimpArgs false
set_option maxRecDepth 100000
open Go.RowKit

theorem fit_kinds : ∀ (row : List Vl) (zs : List Int), fitL row zs = true → ∀ (i : Nat) (p : Vl) (z : Int), row[i]? = some p → zs[i]? = some z → kOf p z
  | [], _, _, i, p, z, hp, _ => by simp at hp
  | _ :: _, [], _, i, p, z, _, hz => by simp at hz
  | q :: row, y :: zs, h, i, p, z, hp, hz => by
    unfold fitL at h
    simp only [Bool.and_eq_true] at h
    cases i with
    | zero =>
      injection hp with hp
      injection hz with hz
      subst hp hz
      have h1 := h.1
      unfold fitP at h1
      simp only [Bool.and_eq_true] at h1
      have h2 := h1.2
      unfold kOf
      by_cases ha : q.1 = y
      · exact .inl ha
      · by_cases hb : q.1 = 0
        · exact .inr hb
        · simp [ha, hb] at h2
    | succ i => exact fit_kinds row zs h.2 i p z hp hz
set_option maxRecDepth 100000 in
set_option maxHeartbeats 6400000 in
theorem law_kinds (v rv : Value) (zs : List Int) (row : List Vl) (d : Nat) (e : Ex) (A : Option Addr) (c : Nat) (w : World) (h : RdE w 0 w.heap.size d (.slice A e.args.length c) e.args) (hz : RdI w 0 w.heap.size v zs) (hr : RdV w 0 w.heap.size rv row) :
    Calls Try.prog 7 #[exV e (.slice A e.args.length c), v, rv] w fun e' w' => e' = .returned (.bool true) ∧ Below w.heap.size w w' := by
  have HB := Lib.hid (show Below w.heap.size w (w.alloc (.cells (exA e (.slice A e.args.length c)) 26)) from bel_mk w _)
  have HO := Lib.hid (show Own (w.alloc (.cells (exA e (.slice A e.args.length c)) 26)) w.heap.size 26 (exA e (.slice A e.args.length c)) from Own.new w 26 _)
  have HP := Lib.hid (fun (W : World) (hb : Below w.heap.size w W) => pCheck_any v zs d e A c W 0 0 (h.step hb (Nat.le_refl _)) (hz.step hb (Nat.le_refl _)))
  have HE := Lib.hid (fun (W : World) (hb : Below w.heap.size w W) => pEval_any rv row d e A c W 0 0 (h.step hb (Nat.le_refl _)) (hr.step hb (Nat.le_refl _)))
  have HF := Lib.hid (fun (W : World) (hb : Below w.heap.size w W) => rFits_any rv v row zs W 0 0 (hr.step hb (Nat.le_refl _)) (hz.step hb (Nat.le_refl _)))
  have HA := Lib.hid (fun W => awake_any W)
  have hk : ∀ k, chkT zs d e = (k, 0) → fitsF row zs = true → kOf (evE row d e) k := by
    intro k hc hf
    unfold fitsF at hf
    simp only [Bool.and_eq_true, decide_eq_true_eq] at hf
    refine kinds_ok row zs hf.1 (fit_kinds row zs hf.2) d e k ?_
    unfold chkT at hc
    by_cases hd : 24 < depE d e
    · rw [if_pos hd] at hc
      injection hc with _ h2
      exact absurd h2 (by decide)
    · rwa [if_neg hd] at hc
  have hv := vld_evE row d e
  have hV := fun W => Va.rValid_any (evE row d e).1 (evE row d e).2.1 (evE row d e).2.2 W
  obtain ⟨Ar, cr, rfl, _, _⟩ := hr
  obtain ⟨Az, cz, rfl, _, _⟩ := hz
  clear h
  unfold exA exV resV at *
  generalize chkT zs d e = P at *
  generalize evE row d e = p at *
  obtain ⟨P1, P2⟩ := P
  obtain ⟨p1, p2, p3⟩ := p
  unfold vldP at hv
  unfold valV at *
  unfold Va.vV at hV
  dsimp only at *
  rw [hv] at hV
  have HV := Lib.hid hV
  generalize fitsF row zs = F at *
  have HK := Lib.hid hk
  clear hk hv hV
  by_cases h2 : P2 = 0
  rotate_left
  · have e1 : (P2 != 0) = true := by simp [h2]
    go_enter Try.func7, Try.ntmps7
    go_wp2_with fail
    with_reducible refine (HP.out _ HB.out).mono ?_
    rintro e w3 ⟨rfl, hb3⟩
    have HB3 := Lib.hid (HB.out.trans (hb3.mono HB.out.size))
    clear hb3
    go_wp2_with fail
    with_reducible refine (HA.out _).mono ?_
    rintro e w5 ⟨rfl, hb5⟩
    go_wp2
    go_ret
    exact ⟨rfl, HB3.out.trans (hb5.mono HB3.out.size)⟩
  subst h2
  cases F
  · go_enter Try.func7, Try.ntmps7
    go_wp2_with fail
    with_reducible refine (HP.out _ HB.out).mono ?_
    rintro e w3 ⟨rfl, hb3⟩
    have HB3 := Lib.hid (HB.out.trans (hb3.mono HB.out.size))
    clear hb3
    go_wp2_with fail
    with_reducible refine (HF.out _ HB3.out).mono ?_
    rintro e w4 ⟨rfl, hb4⟩
    have HB4 := Lib.hid (HB3.out.trans (hb4.mono HB3.out.size))
    clear hb4
    go_wp2_with fail
    with_reducible refine (HA.out _).mono ?_
    rintro e w5 ⟨rfl, hb5⟩
    go_wp2
    go_ret
    exact ⟨rfl, HB4.out.trans (hb5.mono HB4.out.size)⟩
  have hko : kOf (p1, p2, p3) P1 := HK.out P1 rfl (by first | rfl | trivial)
  have hkk : p1 = P1 ∨ (¬ p1 = P1 ∧ p1 = 0) := by
    rcases hko with h | h
    · exact .inl h
    · by_cases hh : p1 = P1
      · exact .inl hh
      · exact .inr ⟨hh, h⟩
  clear HK hko
  rcases hkk with rfl | ⟨hne, rfl⟩
  all_goals
    go_enter Try.func7, Try.ntmps7
    go_wp2_with fail
    with_reducible refine (HP.out _ HB.out).mono ?_
    rintro e w3 ⟨rfl, hb3⟩
    have o3 := HO.out.below hb3 HO.out.lt
    have HB3 := Lib.hid (HB.out.trans (hb3.mono HB.out.size))
    clear hb3
    go_wp2_with fail
    with_reducible refine (HF.out _ HB3.out).mono ?_
    rintro e w4 ⟨rfl, hb4⟩
    have o4 := o3.below hb4 o3.lt
    have HB4 := Lib.hid (HB3.out.trans (hb4.mono HB3.out.size))
    have x0 := o4.cell 0
    have x1 := o4.cell 1
    have x2 := o4.cell 2
    have x3 := o4.cell 3
    have x4 := o4.cell 4
    have x5 := o4.cell 5
    have x6 := o4.cell 6
    clear hb4 o3 o4
    go_wp2_with fail
    with_reducible refine (HE.out _ HB4.out).mono ?_
    rintro e w5 ⟨rfl, hb5⟩
    clear x0 x1 x2 x3 x4 x5 x6
    have HB5 := HB4.out.trans (hb5.mono HB4.out.size)
    go_wp2_with fail
    with_reducible refine (HV.out _).mono ?_
    rintro e w6 ⟨rfl, hb6⟩
    have v6 := (Own.new w5 23 _).below hb6 (Own.new w5 23 _).lt
    have B6 := (HB5.trans ((bel_mk w5 _).mono HB5.size)).trans (hb6.mono (HB5.trans ((bel_mk w5 _).mono HB5.size)).size)
    have y0 := v6.cell 0
    have y1 := v6.cell 1
    have y2 := v6.cell 2
    clear v6 hb5 hb6
    go_wp2_with fail
    with_reducible refine (HA.out _).mono ?_
    rintro e w7 ⟨rfl, hb7⟩
    go_wp2
    go_ret
    exact ⟨by first | rfl | simp, B6.trans (hb7.mono B6.size)⟩
end Go.Proofs.Ytilhlcnniejdgaa
