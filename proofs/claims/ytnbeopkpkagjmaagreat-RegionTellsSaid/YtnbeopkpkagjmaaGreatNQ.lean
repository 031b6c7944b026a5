import Derived.Test.YtnbeopkpkagjmaaGreatNP
/-
  Regions: whether a list is one, by runs of the same system time; the reference's loops; rectangles that lie apart; lengths. Conditions: none.
-/
namespace Go.Proofs.YtnbeopkpkagjmaaGreat
set_option maxRecDepth 100000
set_option linter.unusedVariables false
set_option linter.unusedSimpArgs false

/-- The runs of the same system time. -/
def runsF : Nat → List Rc → List St
  | 0, _ => []
  | _ + 1, [] => []
  | n + 1, r :: l => (r.2, r.1 :: (l.takeWhile fun q => decide (q.2 = r.2)).map (·.1)) :: runsF n (l.dropWhile fun q => decide (q.2 = r.2))
def runs (l : List Rc) : List St := runsF l.length l
theorem drop_len {α : Type} (f : α → Bool) : ∀ l : List α, (l.dropWhile f).length ≤ l.length
  | [] => Nat.le_refl _
  | x :: l => by
    rw [List.dropWhile_cons]
    have := drop_len f l
    split <;> simp <;> omega
theorem runsF_more : ∀ (n m : Nat) (l : List Rc), l.length ≤ n → l.length ≤ m → runsF n l = runsF m l
  | 0, 0, _, _, _ => rfl
  | 0, m + 1, [], _, _ => rfl
  | 0, m + 1, r :: l, h, _ => by simp at h
  | n + 1, 0, [], _, _ => rfl
  | n + 1, 0, r :: l, _, h => by simp at h
  | n + 1, m + 1, [], _, _ => rfl
  | n + 1, m + 1, r :: l, h, h2 => by
    have h3 := drop_len (fun q : Rc => decide (q.2 = r.2)) l
    simp only [List.length_cons] at h h2
    unfold runsF
    rw [runsF_more n m _ (by omega) (by omega)]
theorem runs_nil : runs [] = [] := rfl
theorem runs_cons (r : Rc) (l : List Rc) : runs (r :: l) = (r.2, r.1 :: (l.takeWhile fun q => decide (q.2 = r.2)).map (·.1)) :: runs (l.dropWhile fun q => decide (q.2 = r.2)) := by
  have h3 := drop_len (fun q : Rc => decide (q.2 = r.2)) l
  unfold runs
  rw [List.length_cons]
  conv => lhs; unfold runsF
  rw [runsF_more l.length (l.dropWhile fun q => decide (q.2 = r.2)).length _ (by omega) (Nat.le_refl _)]
theorem outR_runs : ∀ (n : Nat) (l : List Rc), l.length ≤ n → outR (runs l) = l
  | _, [], _ => rfl
  | 0, r :: l, h => by simp at h
  | n + 1, r :: l, h => by
    have h3 := drop_len (fun q : Rc => decide (q.2 = r.2)) l
    simp only [List.length_cons] at h
    rw [runs_cons, outR_cons, outR_runs n _ (by omega)]
    have e : ((l.takeWhile fun q => decide (q.2 = r.2)).map (·.1)).map (fun p => (p, r.2)) = l.takeWhile fun q => decide (q.2 = r.2) := by
      rw [List.map_map]
      conv => rhs; rw [← List.map_id (l.takeWhile fun q => decide (q.2 = r.2))]
      refine List.map_congr_left fun q hq => ?_
      have := List.all_eq_true.1 (List.all_takeWhile (l := l) (p := fun q => decide (q.2 = r.2))) q hq
      rw [decide_eq_true_eq] at this
      exact Prod.ext rfl this.symm
    dsimp only
    rw [List.map_cons, List.cons_append, e, List.takeWhile_append_dropWhile]
theorem runs_out : ∀ (L : List St) (z : Int) (pr : List (Int × Int)), rgS z pr L = true → runs (outR L) = L
  | [], _, _, _ => rfl
  | a :: l, z, pr, h => by
    obtain ⟨_, g2, g3, g4, _, g6⟩ := rgS_iff.1 h
    have gv := vld_iff.1 g2
    have ih := runs_out l _ _ g6
    obtain ⟨q, ps⟩ := a
    cases ps with
    | nil => exact absurd rfl g4
    | cons p ps =>
      dsimp only at gv g6
      rw [outR_cons, List.map_cons, List.cons_append, runs_cons]
      dsimp only
      have hne : ∀ r ∈ (outR l).head?, decide (r.2 = q) = false := fun r hr => by
        cases l with
        | nil => simp [outR] at hr
        | cons c l =>
          obtain ⟨c1, c2, _, c4, _, _⟩ := rgS_iff.1 g6
          have cv := vld_iff.1 c2
          obtain ⟨cq, cps⟩ := c
          cases cps with
          | nil => exact absurd rfl c4
          | cons c' cps =>
            simp [outR] at hr
            rw [← hr]
            simp only [decide_eq_false_iff_not]
            intro he
            dsimp only at c1 cv
            rw [he] at c1 
            omega
      have t1 : (List.map (fun p => (p, q)) ps ++ outR l).takeWhile (fun r => decide (r.2 = q)) = List.map (fun p => (p, q)) ps := by
        rw [List.takeWhile_append_of_pos (fun r hr => by obtain ⟨p, _, rfl⟩ := List.mem_map.1 hr; simp)]
        cases ho : outR l with
        | nil => simp
        | cons r o => rw [List.takeWhile_cons, hne r (by rw [ho]; simp)]; simp
      have t2 : (List.map (fun p => (p, q)) ps ++ outR l).dropWhile (fun r => decide (r.2 = q)) = outR l := by
        rw [List.dropWhile_append_of_pos (fun r hr => by obtain ⟨p, _, rfl⟩ := List.mem_map.1 hr; simp)]
        cases ho : outR l with
        | nil => simp
        | cons r o => rw [List.dropWhile_cons, hne r (by rw [ho]; simp)]; simp
      rw [t1, t2, ih, List.map_map]
      congr 2
      simp [Function.comp_def]
/-- Whether a list is a region. -/
def rgV (l : List Rc) : Bool := rgS (-1) [] (runs l)
theorem rgV_iff (l : List Rc) : rgV l = decide (ofR l = l) := by
  rw [Bool.eq_iff_iff, decide_eq_true_eq, valid_iff]
  constructor
  · intro h
    exact ⟨runs l, h, (outR_runs _ l (Nat.le_refl _)).symm⟩
  · rintro ⟨L, h, rfl⟩
    unfold rgV
    rw [runs_out L _ _ h]
    exact h
theorem rgV_cmb {f : Bool → Bool → Bool} (hf : f false false = false) (a b : List Rc) : rgV (cmbR f a b) = true := by
  rw [rgV_iff, decide_eq_true_eq]
  exact ofR_cmb hf a b
/-- One strip more for Valid: whether next can follow before. -/
def folR (b n : List Rc) : Bool := match n with
  | [] => false
  | r :: _ => vld r.2.1 r.2.2 && spB (-1) (n.map (·.1)) && match b with
    | [] => true
    | q :: _ => decide (q.2.2 < r.2.1) || (decide (q.2.2 = r.2.1) && decide (n.map (·.1) ≠ b.map (·.1)))
/-- What has come before is the strip (z, pr). -/
def Bef (b : List Rc) (z : Int) (pr : List (Int × Int)) : Prop := (b = [] ∧ z = -1) ∨ ∃ q l, b = q :: l ∧ z = q.2.2 ∧ pr = b.map (·.1)
theorem rgS_cons (z : Int) (pr : List (Int × Int)) (a : St) (l : List St) : rgS z pr (a :: l) = (decide (z ≤ a.1.1) && vld a.1.1 a.1.2 && spB (-1) a.2 && !a.2.isEmpty && (decide (z < a.1.1) || decide (a.2 ≠ pr)) && rgS a.1.2 a.2 l) := rfl
theorem fol_rg {b : List Rc} {z : Int} {pr : List (Int × Int)} (hb : Bef b z pr) (r : Rc) (l : List Rc) :
    rgS z pr (runs (r :: l)) = (folR b (r :: l.takeWhile fun q => decide (q.2 = r.2)) && rgS r.2.2 (r.1 :: (l.takeWhile fun q => decide (q.2 = r.2)).map (·.1)) (runs (l.dropWhile fun q => decide (q.2 = r.2)))) := by
  rw [runs_cons]
  generalize l.takeWhile (fun q => decide (q.2 = r.2)) = n
  generalize runs (l.dropWhile fun q => decide (q.2 = r.2)) = R
  rw [rgS_cons]
  unfold folR
  dsimp only
  rw [List.map_cons]
  generalize rgS r.2.2 (r.1 :: n.map (·.1)) R = B
  generalize hs : spB (-1) (r.1 :: n.map (·.1)) = S
  rcases hb with ⟨rfl, rfl⟩ | ⟨q, m, rfl, rfl, rfl⟩
  · dsimp only
    cases hv : vld r.2.1 r.2.2
    · simp
    · have := vld_iff.1 hv
      have h1 : (-1 : Int) ≤ r.2.1 := by omega
      have h2 : (-1 : Int) < r.2.1 := by omega
      simp [h1, h2]
  · dsimp only
    by_cases h1 : q.2.2 < r.2.1
    · have h2 : q.2.2 ≤ r.2.1 := by omega
      simp [h1, h2]
    · by_cases h3 : q.2.2 = r.2.1
      · simp [h3]
      · have h2 : ¬ q.2.2 ≤ r.2.1 := by omega
        simp [h1, h2, h3]
theorem bef_next (r : Rc) (l : List Rc) : Bef (r :: l.takeWhile fun q => decide (q.2 = r.2)) r.2.2 (r.1 :: (l.takeWhile fun q => decide (q.2 = r.2)).map (·.1)) := .inr ⟨_, _, rfl, rfl, by rw [List.map_cons]⟩

/-! The reference's loops. -/
theorem grp_cut (g : Int → List (Int × Int)) (P : List Int) {i k : Nat} (hik : i < k) (hk : k < P.length) (hm : ∀ j (hj : j < P.length), i < j → j < k → g P[j] = g (P[i]'(by omega))) (hr : P.length ≤ k + 1 ∨ g P[k] ≠ g (P[i]'(by omega))) :
    grp (stp g (P.drop i)) = ((P[i]'(by omega), P[k]), g (P[i]'(by omega))) :: grp (stp g (P.drop k)) := by
  have e1 : P.drop i = P[i]'(by omega) :: ((P.drop (i + 1)).take (k - i - 1) ++ P[k] :: P.drop (k + 1)) := by
    rw [List.drop_eq_getElem_cons (by omega : i < P.length)]
    congr 1
    conv => lhs; rw [← List.take_append_drop (k - i - 1) (P.drop (i + 1))]
    congr 1
    rw [List.drop_drop, show i + 1 + (k - i - 1) = k by omega, List.drop_eq_getElem_cons hk]
  rw [e1, List.drop_eq_getElem_cons hk]
  refine grp_run g _ _ _ _ (fun z hz => ?_) ?_
  · obtain ⟨j, hj, rfl⟩ := List.getElem_of_mem hz
    rw [List.getElem_take, List.getElem_drop]
    simp only [List.length_take, List.length_drop] at hj
    exact hm _ (by omega) (by omega) (by omega)
  · rcases hr with hr | hr
    · left; exact List.drop_eq_nil_of_le hr
    · right; exact hr
theorem grp_end (g : Int → List (Int × Int)) (P : List Int) {i : Nat} (hi : P.length ≤ i + 1) : grp (stp g (P.drop i)) = [] := by
  have : (P.drop i).length ≤ 1 := by rw [List.length_drop]; omega
  match hP : P.drop i, this with
  | [], _ => rfl
  | [x], _ => rfl

/-! Rectangles that lie apart. -/
def ovR (a b : Rc) : Bool := ovl a.1.1 a.1.2 b.1.1 b.1.2 && ovl a.2.1 a.2.2 b.2.1 b.2.2
theorem ovl_iff {a b c d : Int} : ovl a b c d = true ↔ vld a b = true ∧ vld c d = true ∧ a < d ∧ c < b := by simp [ovl, and_assoc]
theorem sp_mem : ∀ {z : Int} {l : List (Int × Int)}, spB z l = true → ∀ p ∈ l, vld p.1 p.2 = true ∧ z < p.1
  | _, [], _, p, hp => by simp at hp
  | z, q :: l, h, p, hp => by
    simp only [spB, Bool.and_eq_true, decide_eq_true_eq] at h
    have hq := vld_iff.1 h.1.2
    rcases List.mem_cons.1 hp with rfl | hp
    · exact ⟨h.1.2, h.1.1⟩
    · have := sp_mem h.2 p hp
      exact ⟨this.1, by omega⟩
theorem rg_mem : ∀ {z : Int} {pr : List (Int × Int)} {L : List St}, rgS z pr L = true → ∀ r ∈ outR L, sndR r = true ∧ z ≤ r.2.1
  | _, _, [], _, r, hr => by simp [outR] at hr
  | z, pr, a :: l, h, r, hr => by
    obtain ⟨g1, g2, g3, _, _, g6⟩ := rgS_iff.1 h
    have gv := vld_iff.1 g2
    rw [outR_cons] at hr
    rcases List.mem_append.1 hr with hr | hr
    · obtain ⟨p, hp, rfl⟩ := List.mem_map.1 hr
      refine ⟨?_, g1⟩
      unfold sndR
      rw [(sp_mem g3 p hp).1, g2]; rfl
    · have := rg_mem g6 r hr
      exact ⟨this.1, by omega⟩
theorem sp_apart (q : Int × Int) : ∀ {z : Int} {l : List (Int × Int)}, spB z l = true → (l.map fun p => (p, q)).Pairwise fun a b : Rc => ovR a b = false
  | _, [], _ => List.Pairwise.nil
  | z, p :: l, h => by
    have h' := h
    simp only [spB, Bool.and_eq_true, decide_eq_true_eq] at h
    rw [List.map_cons]
    refine List.pairwise_cons.2 ⟨fun r hr => ?_, sp_apart q h.2⟩
    obtain ⟨p', hp', rfl⟩ := List.mem_map.1 hr
    have := sp_mem h.2 p' hp'
    unfold ovR
    rw [Bool.eq_false_iff, ne_eq, Bool.and_eq_true, ovl_iff]
    rintro ⟨⟨_, _, _, h4⟩, _⟩
    dsimp only at h4
    omega
theorem rg_apart : ∀ {z : Int} {pr : List (Int × Int)} {L : List St}, rgS z pr L = true → (outR L).Pairwise fun a b => ovR a b = false
  | _, _, [], _ => List.Pairwise.nil
  | z, pr, a :: l, h => by
    obtain ⟨g1, g2, g3, _, _, g6⟩ := rgS_iff.1 h
    rw [outR_cons]
    refine List.pairwise_append.2 ⟨sp_apart a.1 g3, rg_apart g6, fun r hr s hs => ?_⟩
    obtain ⟨p, _, rfl⟩ := List.mem_map.1 hr
    have := (rg_mem g6 s hs).2
    unfold ovR
    rw [Bool.eq_false_iff, ne_eq, Bool.and_eq_true, ovl_iff, ovl_iff]
    rintro ⟨_, ⟨_, _, _, h4⟩⟩
    dsimp only at h4
    omega
theorem cmb_snd {f : Bool → Bool → Bool} (hf : f false false = false) (a b : List Rc) : ∀ r ∈ cmbR f a b, sndR r = true := by
  obtain ⟨L, h1, h2⟩ := cmb_rg hf a b
  rw [h2]
  exact fun r hr => (rg_mem h1 r hr).1
theorem cmb_apart {f : Bool → Bool → Bool} (hf : f false false = false) (a b : List Rc) : (cmbR f a b).Pairwise fun a b => ovR a b = false := by
  obtain ⟨L, h1, h2⟩ := cmb_rg hf a b
  rw [h2]
  exact rg_apart h1
theorem snd_mem {r : Rc} (h : sndR r = true) : memR [r] r.1.1 r.2.1 = true := by
  unfold sndR at h
  rw [Bool.and_eq_true] at h
  have h1 := vld_iff.1 h.1
  have h2 := vld_iff.1 h.2
  rw [memR_cons, memR_nil, Bool.or_false, Bool.and_eq_true, cnt_iff, cnt_iff]
  omega
theorem ov_inter (a b : Rc) : ovR a b = decide (0 < (cmbR fAnd [a] [b]).length) := by
  rw [Bool.eq_iff_iff, decide_eq_true_eq]
  have hm := cmb_mem (f := fAnd) rfl [a] [b]
  constructor
  · intro h
    unfold ovR at h
    rw [Bool.and_eq_true, ovl_iff, ovl_iff] at h
    obtain ⟨⟨h1, h2, h3, h4⟩, k1, k2, k3, k4⟩ := h
    have v1 := vld_iff.1 h1
    have v2 := vld_iff.1 h2
    have v3 := vld_iff.1 k1
    have v4 := vld_iff.1 k2
    have h5 := hm (max a.1.1 b.1.1) (max a.2.1 b.2.1)
    have e1 : memR [a] (max a.1.1 b.1.1) (max a.2.1 b.2.1) = true := by
      rw [memR_cons, memR_nil, Bool.or_false, Bool.and_eq_true, cnt_iff, cnt_iff]; omega
    have e2 : memR [b] (max a.1.1 b.1.1) (max a.2.1 b.2.1) = true := by
      rw [memR_cons, memR_nil, Bool.or_false, Bool.and_eq_true, cnt_iff, cnt_iff]; omega
    rw [e1, e2] at h5
    rcases Nat.eq_zero_or_pos (cmbR fAnd [a] [b]).length with h0 | h0
    · rw [List.length_eq_zero_iff.1 h0, memR_nil] at h5; cases h5
    · exact h0
  · intro h
    have hs := cmb_snd (f := fAnd) rfl [a] [b]
    cases hc : cmbR fAnd [a] [b] with
    | nil => rw [hc] at h; simp at h
    | cons r l =>
      have h1 := snd_mem (hs r (by rw [hc]; simp))
      have h2 := hm r.1.1 r.2.1
      rw [hc, memR_cons] at h2
      rw [memR_cons, memR_nil, Bool.or_false] at h1
      rw [h1, Bool.true_or] at h2
      unfold fAnd at h2
      have h3 := h2.symm
      rw [Bool.and_eq_true, memR_cons, memR_nil, memR_cons, memR_nil, Bool.or_false, Bool.or_false, Bool.and_eq_true, Bool.and_eq_true, cnt_iff, cnt_iff, cnt_iff, cnt_iff] at h3
      unfold ovR
      rw [Bool.and_eq_true, ovl_iff, ovl_iff, vld_iff, vld_iff, vld_iff, vld_iff]
      omega

/-! Lengths. -/
theorem stp_len (g : Int → List (Int × Int)) : ∀ P : List Int, (stp g P).length ≤ P.length
  | [] => Nat.le_refl _
  | [_] => by simp [stp]
  | x :: y :: r => by
    have := stp_len g (y :: r)
    rw [stp_two]; simp at *; omega
theorem stp_len1 (g : Int → List (Int × Int)) : ∀ (x : Int) (r : List Int), (stp g (x :: r)).length = r.length
  | _, [] => rfl
  | x, y :: r => by rw [stp_two, List.length_cons, stp_len1 g y r, List.length_cons]
theorem grp_sub : ∀ l : List St, (grp l).length ≤ l.length ∧ ∀ a ∈ grp l, ∃ b ∈ l, b.2 = a.2
  | [] => ⟨Nat.le_refl _, fun a h => by simp [grp] at h⟩
  | a :: l => by
    obtain ⟨h1, h2⟩ := grp_sub l
    unfold grp
    cases hG : grp l with
    | nil =>
      refine ⟨by simp, fun b hb => ⟨a, by simp, ?_⟩⟩
      simp at hb; rw [hb]
    | cons c m =>
      rw [hG] at h1 h2
      dsimp only
      split
      · refine ⟨by simp at *; omega, fun b hb => ?_⟩
        rcases List.mem_cons.1 hb with rfl | hb
        · exact ⟨a, by simp, rfl⟩
        · obtain ⟨d, hd, he⟩ := h2 b (by simp [hb])
          exact ⟨d, by simp [hd], he⟩
      · refine ⟨by simp at *; omega, fun b hb => ?_⟩
        rcases List.mem_cons.1 hb with rfl | hb
        · exact ⟨b, by simp, rfl⟩
        · obtain ⟨d, hd, he⟩ := h2 b hb
          exact ⟨d, by simp [hd], he⟩
theorem stp_slice (g : Int → List (Int × Int)) : ∀ P : List Int, ∀ a ∈ stp g P, ∃ x, a.2 = g x
  | [], a, h => by simp [stp] at h
  | [_], a, h => by simp [stp] at h
  | x :: y :: r, a, h => by
    rw [stp_two] at h
    rcases List.mem_cons.1 h with rfl | h
    · exact ⟨x, rfl⟩
    · exact stp_slice g (y :: r) a h
theorem out_len (n : Nat) : ∀ l : List St, (∀ a ∈ l, a.2.length ≤ n) → (outR l).length ≤ l.length * n
  | [], _ => by simp [outR]
  | a :: l, h => by
    have h1 := out_len n l fun b hb => h b (List.mem_cons_of_mem _ hb)
    have h2 := h a (by simp)
    rw [outR_cons, List.length_append, List.length_map, List.length_cons, Nat.succ_mul]
    omega
theorem cmb_len (f : Bool → Bool → Bool) (a b : List Rc) : (cmbR f a b).length ≤ (2 * (a.length + b.length) - 1) * (2 * (a.length + b.length)) := by
  unfold cmbR
  have hP : (ptsR (a ++ b)).length ≤ 2 * (a.length + b.length) := by
    have := pts_len (((a ++ b).filter sndR).map (·.2))
    have h2 := List.length_filter_le sndR (a ++ b)
    unfold ptsR
    rw [List.length_map] at this
    rw [List.length_append] at h2
    omega
  have hs : ∀ x, (slcC f a b x).length ≤ 2 * (a.length + b.length) := fun x => by
    have := comb_len f (atS a x) (atS b x)
    have h1 : (atS a x).length ≤ a.length := by unfold atS; rw [List.length_map]; exact List.length_filter_le _ _
    have h2 : (atS b x).length ≤ b.length := by unfold atS; rw [List.length_map]; exact List.length_filter_le _ _
    unfold slcC
    omega
  obtain ⟨g1, g2⟩ := grp_sub (stp (slcC f a b) (ptsR (a ++ b)))
  have g3 : (stp (slcC f a b) (ptsR (a ++ b))).length ≤ 2 * (a.length + b.length) - 1 := by
    cases h : ptsR (a ++ b) with
    | nil => simp [stp]
    | cons x r => rw [h] at hP; rw [stp_len1]; simp at hP; omega
  refine Nat.le_trans (out_len (2 * (a.length + b.length)) _ fun c hc => ?_) (Nat.mul_le_mul_right _ (Nat.le_trans g1 g3))
  obtain ⟨d, hd, he⟩ := g2 c hc
  obtain ⟨x, hx⟩ := stp_slice _ _ d hd
  rw [← he, hx]
  exact hs x

/-! Unions, slices, sections. -/
theorem cmb_un (a b : List Rc) : ofR (a ++ b) = cmbR fOr a b := cmb_ext rfl rfl fun v s => by rw [memR_append, memR_nil]; rfl
theorem slc_cmb {f : Bool → Bool → Bool} (hf : f false false = false) (a b : List Rc) (t : Int) : slcR (cmbR f a b) t = comb f (slcR a t) (slcR b t) :=
  sp_ext (slc_sp _ _) (comb_sp hf _ _) fun v => by rw [slc_mem, cmb_mem hf, comb_mem hf, slc_mem, slc_mem]
theorem sec_sp (l : List Rc) (v : Int) : spB (-1) (secR l v) = true := comb_sp rfl _ _
theorem sec_cmb {f : Bool → Bool → Bool} (hf : f false false = false) (a b : List Rc) (v : Int) : secR (cmbR f a b) v = comb f (secR a v) (secR b v) :=
  sp_ext (sec_sp _ _) (comb_sp hf _ _) fun s => by rw [sec_mem, cmb_mem hf, comb_mem hf, sec_mem, sec_mem]
end Go.Proofs.YtnbeopkpkagjmaaGreat
