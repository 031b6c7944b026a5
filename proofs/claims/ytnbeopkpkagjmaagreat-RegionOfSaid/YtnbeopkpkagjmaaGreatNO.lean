import Derived.Test.YtnbeopkpkagjmaaGreatNN
/-
  The program's sweep over rectangles: the slices between neighbouring times, the strips visited, the result. Conditions: none.
-/
namespace Go.Proofs.YtnbeopkpkagjmaaGreat
set_option maxRecDepth 100000
set_option linter.unusedVariables false
set_option linter.unusedSimpArgs false

theorem memL_congr {l m : List (Int × Int)} (h : ∀ p, p ∈ l ↔ p ∈ m) (t : Int) : memL l t = memL m t := by
  unfold memL
  rw [Bool.eq_iff_iff, List.any_eq_true, List.any_eq_true]
  constructor
  · rintro ⟨p, h1, h2⟩; exact ⟨p, (h p).1 h1, h2⟩
  · rintro ⟨p, h1, h2⟩; exact ⟨p, (h p).2 h1, h2⟩
theorem opn_at {a b : List Rc} {D : List Bo} (h : Swp a b D) {j : Int} (hj : j = 0 ∨ j = 1) {k : Nat} (h0 : 0 < k) (hk : k < D.length) (hlt : (D[k - 1]'(by omega)).1 < D[k].1) (p : Int × Int) :
    p ∈ opn j (D.take k) ↔ p ∈ atS (pick j a b) (D[k - 1]'(by omega)).1 := by
  rw [← List.count_pos_iff, ← List.count_pos_iff]
  have hi := (opn_inv h j k (by omega)).2 p
  have ha := h.at hj p (D[k - 1]'(by omega)).1
  have c1 : ∀ d ∈ D.take k, d.1 ≤ (D[k - 1]'(by omega)).1 := fun d hd => by
    have hk1 : k - 1 < D.length := by omega
    obtain ⟨g1, _⟩ := cut_le h.srt hk1
    rw [show D.take k = D.take (k - 1) ++ [D[k - 1]'(by omega)] by rw [← List.take_succ_eq_append_getElem hk1]; congr 1; omega] at hd
    rcases List.mem_append.1 hd with hd | hd
    · exact g1 d hd
    · simp at hd; rw [hd]; exact Int.le_refl _
  have c2 : ∀ d ∈ D.drop k, (D[k - 1]'(by omega)).1 < d.1 := fun d hd => Int.lt_of_lt_of_le hlt ((cut_le h.srt hk).2 d hd)
  generalize (D[k - 1]'(by omega)).1 = x at *
  have e : ∀ q, D.countP (fun d => isB j p q d && decide (d.1 ≤ x)) = (D.take k).countP (isB j p q) := fun q => by
    conv => lhs; rw [← List.take_append_drop k D]
    rw [List.countP_append]
    have e1 : (D.drop k).countP (fun d => isB j p q d && decide (d.1 ≤ x)) = 0 := by
      rw [List.countP_eq_zero]; intro d hd
      have := c2 d hd
      simp; intro _; omega
    rw [e1, Nat.add_zero]
    exact List.countP_congr fun d hd => by simp [c1 d hd]
  rw [e, e] at ha
  omega

/-! Joining sorted periods that may overlap. -/
def mstep (acc : List (Int × Int)) (p : Int × Int) : List (Int × Int) :=
  match acc.getLast? with
  | none => acc ++ [p]
  | some q => if ovl q.1 q.2 p.1 p.2 || adj q.1 q.2 p.1 p.2 then acc.dropLast ++ [(min q.1 p.1, max q.2 p.2)] else acc ++ [p]
def mjn (l : List (Int × Int)) : List (Int × Int) := l.foldl mstep []
theorem mstep_ok {acc : List (Int × Int)} {p : Int × Int} (h : spB (-1) acc = true) (hv : vld p.1 p.2 = true) (hf : ∀ q, acc.getLast? = some q → q.1 ≤ p.1) :
    spB (-1) (mstep acc p) = true ∧ (∀ t, memL (mstep acc p) t = (memL acc t || cnt p.1 p.2 t)) ∧ ∀ q, (mstep acc p).getLast? = some q → q.1 ≤ p.1 := by
  have hpv := vld_iff.1 hv
  rcases List.eq_nil_or_concat acc with rfl | ⟨l, q, rfl⟩
  · refine ⟨?_, ?_, ?_⟩
    · simp [mstep, spB, hv]; omega
    · intro t; simp [mstep, memL]
    · intro q hq; simp [mstep] at hq; rw [← hq]; exact Int.le_refl _
  · rw [List.concat_eq_append] at *
    have hq1 := hf q (by simp)
    rw [spB_snoc, Bool.and_eq_true, Bool.and_eq_true, decide_eq_true_eq] at h
    have hq := vld_iff.1 h.2
    unfold mstep
    rw [show (l ++ [q]).getLast? = some q by simp]
    simp only [List.dropLast_concat]
    by_cases hqp : p.1 ≤ q.2
    · have ha : (ovl q.1 q.2 p.1 p.2 || adj q.1 q.2 p.1 p.2) = true := by
        unfold ovl adj; rw [h.2, hv]
        by_cases he : q.2 = p.1
        · simp [he]
        · have : p.1 < q.2 := by omega
          have : q.1 < p.2 := by omega
          simp [*]
      rw [if_pos ha, show min q.1 p.1 = q.1 by omega]
      refine ⟨?_, ?_, ?_⟩
      · rw [spB_snoc, h.1.1, Bool.true_and, Bool.and_eq_true, decide_eq_true_eq]
        exact ⟨h.1.2, vld_iff.2 ⟨hq.1, by omega, by omega⟩⟩
      · intro t
        rw [memL_append, memL_append, memL_cons, memL_cons, memL_nil, Bool.or_false, Bool.or_false, Bool.or_assoc]
        congr 1
        rw [Bool.eq_iff_iff, Bool.or_eq_true, cnt_iff, cnt_iff, cnt_iff]
        omega
      · intro z hz; simp at hz; rw [← hz]; exact hq1
    · have ha : (ovl q.1 q.2 p.1 p.2 || adj q.1 q.2 p.1 p.2) = false := by
        rw [Bool.eq_false_iff]; intro ha
        simp [ovl, adj, h.2, hv] at ha; omega
      rw [if_neg (by rw [ha]; decide)]
      refine ⟨?_, ?_, ?_⟩
      · rw [spB_snoc, spB_snoc, lastTo_snoc, h.1.1, h.2, hv]; simp; exact ⟨h.1.2, by omega⟩
      · intro t; rw [memL_append, memL_append, memL_cons, memL_cons, memL_nil, Bool.or_false, Bool.or_false]
      · intro z hz; simp at hz; rw [← hz]; exact Int.le_refl _
theorem mjn_aux : ∀ (l acc : List (Int × Int)), spB (-1) acc = true → SrtP l → (∀ p ∈ l, vld p.1 p.2 = true) → (∀ q, acc.getLast? = some q → ∀ p ∈ l, q.1 ≤ p.1) →
    spB (-1) (l.foldl mstep acc) = true ∧ ∀ t, memL (l.foldl mstep acc) t = (memL acc t || memL l t)
  | [], acc, h, _, _, _ => ⟨h, fun t => by simp [memL]⟩
  | p :: l, acc, h, hs, hv, hf => by
    have h1 := List.pairwise_cons.1 hs
    obtain ⟨g1, g2, g3⟩ := mstep_ok h (hv p (List.mem_cons_self ..)) fun q hq => hf q hq p (List.mem_cons_self ..)
    obtain ⟨k1, k2⟩ := mjn_aux l (mstep acc p) g1 h1.2 (fun q hq => hv q (List.mem_cons_of_mem _ hq)) fun q hq r hr => by
      have := g3 q hq
      have := ltP_neg.1 (h1.1 r hr)
      omega
    refine ⟨k1, fun t => ?_⟩
    rw [List.foldl_cons, k2, g2, memL_cons, Bool.or_assoc]
theorem mjn_is {l : List (Int × Int)} (hs : SrtP l) (hv : ∀ p ∈ l, vld p.1 p.2 = true) : mjn l = ofL l := by
  obtain ⟨h1, h2⟩ := mjn_aux l [] rfl hs hv (fun q hq => by simp at hq)
  exact sp_ext h1 (comb_sp rfl _ _) fun t => by rw [ofL_mem]; exact h2 t
theorem atS_vld {l : List Rc} {x : Int} {p : Int × Int} (h : p ∈ atS l x) : vld p.1 p.2 = true := by
  unfold atS at h
  obtain ⟨r, hr, rfl⟩ := List.mem_map.1 h
  have h2 := (List.mem_filter.1 hr).2
  simp only [sndR, Bool.and_eq_true] at h2
  exact h2.1.1
theorem open_is {a b : List Rc} {D : List Bo} (h : Swp a b D) {j : Int} (hj : j = 0 ∨ j = 1) {k : Nat} (h0 : 0 < k) (hk : k < D.length) (hlt : (D[k - 1]'(by omega)).1 < D[k].1) :
    mjn (opn j (D.take k)) = slcR (pick j a b) (D[k - 1]'(by omega)).1 := by
  have hm := opn_at h hj h0 hk hlt
  rw [mjn_is (opn_inv h j k (by omega)).1 fun p hp => atS_vld ((hm p).1 hp)]
  exact ofL_ext fun t => memL_congr hm t

/-! The strips visited. -/
def tmB (D : List Bo) : List Bd := D.map fun d => (d.1, 0, 0)
def atB (D : List Bo) (k : Nat) : Int := atOf (tmB D) k
theorem atB_is {D : List Bo} {k : Nat} (hk : k < D.length) : atB D k = D[k].1 := by
  unfold atB atOf tmB
  rw [List.getD_eq_getElem?_getD, List.getElem?_map, List.getElem?_eq_getElem hk]; rfl
def visS (g : Int → List (Int × Int)) (D : List Bo) : Nat → List St
  | 0 => []
  | k + 1 => visS g D k ++ (if 0 < k ∧ atB D (k - 1) < atB D k then [((atB D (k - 1), atB D k), g (atB D (k - 1)))] else [])
theorem stp_snoc (g : Int → List (Int × Int)) (x y : Int) : ∀ L : List Int, stp g (L ++ [x, y]) = stp g (L ++ [x]) ++ [((x, y), g x)]
  | [] => rfl
  | [z] => rfl
  | z :: q :: L => by
    show stp g (z :: q :: (L ++ [x, y])) = stp g (z :: q :: (L ++ [x])) ++ _
    rw [stp_two, stp_two]
    have := stp_snoc g x y (q :: L)
    rw [List.cons_append, List.cons_append] at this
    rw [this]; rfl
theorem tmB_srt {D : List Bo} (hs : D.Pairwise fun d e => d.1 ≤ e.1) : (tmB D).Pairwise fun d e => d.1 ≤ e.1 := by
  unfold tmB
  rw [List.pairwise_map]
  exact hs
theorem vis_stp (g : Int → List (Int × Int)) {D : List Bo} (hs : D.Pairwise fun d e => d.1 ≤ e.1) : ∀ k, k ≤ D.length → visS g D k = stp g (atsI ((tmB D).take k))
  | 0, _ => rfl
  | k + 1, hk => by
    have hlen : (tmB D).length = D.length := by simp [tmB]
    have hk' : k < (tmB D).length := by omega
    have hs' := tmB_srt hs
    have e2 : atB D k = ((tmB D)[k]).1 := by unfold atB atOf; rw [List.getD_eq_getElem?_getD, List.getElem?_eq_getElem hk']; rfl
    rw [visS, vis_stp g hs k (by omega), List.take_succ_eq_append_getElem hk', atsI_snoc, ← e2]
    rcases Nat.eq_zero_or_pos k with rfl | h0
    · simp [atsI, insI, stp]
    · obtain ⟨L, hL, hlt⟩ := last_ats hs' k h0 (by omega)
      have e1 : atB D (k - 1) = ((tmB D)[k - 1]'(by omega)).1 := by unfold atB atOf; rw [List.getD_eq_getElem?_getD, List.getElem?_eq_getElem (by omega)]; rfl
      have hle : atB D (k - 1) ≤ atB D k := by rw [e1, e2]; exact List.pairwise_iff_getElem.1 hs' (k - 1) k (by omega) hk' (by omega)
      have hsL := atsI_sorted ((tmB D).take k)
      rw [hL] at hsL ⊢
      change ∀ y ∈ L, y < atB D (k - 1) at hlt
      change (L ++ [atB D (k - 1)]).Pairwise (· < ·) at hsL
      show stp g (L ++ [atB D (k - 1)]) ++ _ = stp g (insI (atB D k) (L ++ [atB D (k - 1)]))
      by_cases he : atB D (k - 1) = atB D k
      · rw [if_neg (by omega), List.append_nil, ← he, insI_same hsL (by simp)]
      · have hlt2 : atB D (k - 1) < atB D k := by omega
        rw [insI_last (fun y hy => by
          rcases List.mem_append.1 hy with hy | hy
          · have := hlt y hy; omega
          · simp at hy; omega), List.append_assoc, List.singleton_append, stp_snoc, if_pos ⟨h0, hlt2⟩]
def ptsR (l : List Rc) : List Int := pts ((l.filter sndR).map (·.2))
theorem bndR_at (j : Int) (l : List Rc) (x : Int) : (∃ d ∈ bndR j l, d.1 = x) ↔ ∃ r ∈ l, sndR r = true ∧ (x = r.2.1 ∨ x = r.2.2) := by
  unfold bndR
  constructor
  · rintro ⟨d, hd, rfl⟩
    obtain ⟨r, hr, h2⟩ := List.mem_flatMap.1 hd
    split at h2
    · rename_i hs
      simp at h2
      refine ⟨r, hr, hs, ?_⟩
      rcases h2 with rfl | rfl
      · exact .inl rfl
      · exact .inr rfl
    · simp at h2
  · rintro ⟨r, hr, hs, rfl | rfl⟩
    · exact ⟨(r.2.1, j, true, r.1), List.mem_flatMap.2 ⟨r, hr, by rw [if_pos hs]; simp⟩, rfl⟩
    · exact ⟨(r.2.2, j, false, r.1), List.mem_flatMap.2 ⟨r, hr, by rw [if_pos hs]; simp⟩, rfl⟩
theorem ptsR_mem (l : List Rc) (x : Int) : x ∈ ptsR l ↔ ∃ r ∈ l, sndR r = true ∧ (x = r.2.1 ∨ x = r.2.2) := by
  unfold ptsR
  rw [pts_mem]
  constructor
  · rintro ⟨p, hp, _, hx⟩
    obtain ⟨r, hr, rfl⟩ := List.mem_map.1 hp
    exact ⟨r, (List.mem_filter.1 hr).1, (List.mem_filter.1 hr).2, hx⟩
  · rintro ⟨r, hr, hs, hx⟩
    refine ⟨r.2, List.mem_map.2 ⟨r, List.mem_filter.2 ⟨hr, hs⟩, rfl⟩, ?_, hx⟩
    unfold sndR at hs
    rw [Bool.and_eq_true] at hs
    exact hs.2
theorem Swp.pts {a b : List Rc} {D : List Bo} (h : Swp a b D) : atsI (tmB D) = ptsR (a ++ b) := by
  refine sorted_ext (atsI_sorted _) (pts_sorted _) fun x => ?_
  rw [atsI_mem, ptsR_mem]
  have e : (∃ d ∈ tmB D, d.1 = x) ↔ ∃ d ∈ D, d.1 = x := by
    unfold tmB
    constructor
    · rintro ⟨d, hd, rfl⟩
      obtain ⟨c, hc, rfl⟩ := List.mem_map.1 hd
      exact ⟨c, hc, rfl⟩
    · rintro ⟨d, hd, rfl⟩
      exact ⟨(d.1, 0, 0), List.mem_map.2 ⟨d, hd, rfl⟩, rfl⟩
  rw [e]
  constructor
  · rintro ⟨d, hd, rfl⟩
    rcases List.mem_append.1 (h.prm.mem_iff.1 hd) with hd | hd
    · obtain ⟨r, hr, h2⟩ := (bndR_at 0 a d.1).1 ⟨d, hd, rfl⟩
      exact ⟨r, List.mem_append_left _ hr, h2⟩
    · obtain ⟨r, hr, h2⟩ := (bndR_at 1 b d.1).1 ⟨d, hd, rfl⟩
      exact ⟨r, List.mem_append_right _ hr, h2⟩
  · rintro ⟨r, hr, h2⟩
    rcases List.mem_append.1 hr with hr | hr
    · obtain ⟨d, hd, h3⟩ := (bndR_at 0 a x).2 ⟨r, hr, h2⟩
      exact ⟨d, h.prm.mem_iff.2 (List.mem_append_left _ hd), h3⟩
    · obtain ⟨d, hd, h3⟩ := (bndR_at 1 b x).2 ⟨r, hr, h2⟩
      exact ⟨d, h.prm.mem_iff.2 (List.mem_append_right _ hd), h3⟩
/-- The region of a combination. -/
def slcC (f : Bool → Bool → Bool) (a b : List Rc) (x : Int) : List (Int × Int) := comb f (atS a x) (atS b x)
def cmbR (f : Bool → Bool → Bool) (a b : List Rc) : List Rc := outR (grp (stp (slcC f a b) (ptsR (a ++ b))))
/-- What the program's visits make, over any ascending order of the bounds. -/
theorem combine_is (f : Bool → Bool → Bool) {a b : List Rc} {D : List Bo} (h : Swp a b D) : ((visS (slcC f a b) D D.length).foldl vstep ([], [])).1 = cmbR f a b := by
  rw [vfold_grp, vis_stp _ h.srt _ (Nat.le_refl _)]
  have hlen : (tmB D).length = D.length := by simp [tmB]
  rw [← hlen, List.take_length, h.pts]
  rfl
theorem slcC_slc {f : Bool → Bool → Bool} (hf : f false false = false) (a b : List Rc) (x : Int) : comb f (slcR a x) (slcR b x) = slcC f a b x :=
  comb_ext hf hf fun t => by unfold slcR; rw [ofL_mem, ofL_mem]
end Go.Proofs.YtnbeopkpkagjmaaGreat
