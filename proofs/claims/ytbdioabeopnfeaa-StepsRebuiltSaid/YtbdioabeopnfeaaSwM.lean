/-
  The sweep over the sorted bounds of two lists, as a function: it gives the elementary periods of the combination. Conditions: none.
-/
import Derived.Test.YtbdioabeopnfeaaSpM
namespace Go.Proofs.Ytbdioabeopnfeaa

/-- A bound: its instant, its list, its count. -/
abbrev Bd := Int × Int × Int
def bnds (j : Int) (l : List (Int × Int)) : List Bd := l.flatMap fun p => if vld p.1 p.2 then [(p.1, j, 1), (p.2, j, -1)] else []
theorem bnds_snoc (j : Int) (l : List (Int × Int)) (p : Int × Int) : bnds j (l ++ [p]) = bnds j l ++ (if vld p.1 p.2 then [(p.1, j, 1), (p.2, j, -1)] else []) := by simp [bnds]
theorem bnds_cons (j : Int) (l : List (Int × Int)) (p : Int × Int) : bnds j (p :: l) = (if vld p.1 p.2 then [(p.1, j, 1), (p.2, j, -1)] else []) ++ bnds j l := by simp [bnds]
theorem bnds_len (j : Int) : ∀ l : List (Int × Int), (bnds j l).length ≤ 2 * l.length
  | [] => by simp [bnds]
  | p :: l => by
    have := bnds_len j l
    rw [bnds_cons, List.length_append, List.length_cons]
    split <;> simp <;> omega
theorem bnds_in (j : Int) (l : List (Int × Int)) : ∀ d ∈ bnds j l, d.2.1 = j ∧ (d.2.2 = 1 ∨ d.2.2 = -1) ∧ 0 ≤ d.1 ∧ d.1 ≤ 1099511627776 := by
  intro d hd
  obtain ⟨p, _, h⟩ := List.mem_flatMap.1 hd
  split at h
  · rename_i hv
    have := vld_iff.1 hv
    simp at h
    rcases h with rfl | rfl <;> simp <;> omega
  · simp at h
theorem bnds_at (j : Int) (l : List (Int × Int)) (x : Int) : (∃ d ∈ bnds j l, d.1 = x) ↔ ∃ p ∈ l, vld p.1 p.2 = true ∧ (x = p.1 ∨ x = p.2) := by
  constructor
  · rintro ⟨d, hd, rfl⟩
    obtain ⟨p, hp, h⟩ := List.mem_flatMap.1 hd
    split at h
    · rename_i hv
      simp at h
      rcases h with rfl | rfl
      · exact ⟨p, hp, hv, .inl rfl⟩
      · exact ⟨p, hp, hv, .inr rfl⟩
    · simp at h
  · rintro ⟨p, hp, hv, rfl | rfl⟩
    · exact ⟨(p.1, j, 1), List.mem_flatMap.2 ⟨p, hp, by rw [if_pos hv]; simp⟩, rfl⟩
    · exact ⟨(p.2, j, -1), List.mem_flatMap.2 ⟨p, hp, by rw [if_pos hv]; simp⟩, rfl⟩

/-- The counts of list j, added. -/
def sm (j : Int) (D : List Bd) : Int := D.foldr (fun d n => (if d.2.1 = j then d.2.2 else 0) + n) 0
theorem sm_nil (j : Int) : sm j [] = 0 := rfl
theorem sm_cons (j : Int) (d : Bd) (D : List Bd) : sm j (d :: D) = (if d.2.1 = j then d.2.2 else 0) + sm j D := rfl
theorem sm_append (j : Int) : ∀ D E : List Bd, sm j (D ++ E) = sm j D + sm j E
  | [], E => by rw [List.nil_append, sm_nil]; omega
  | d :: D, E => by rw [List.cons_append, sm_cons, sm_cons, sm_append j D E]; omega
theorem sm_one (j : Int) (d : Bd) : sm j [d] = if d.2.1 = j then d.2.2 else 0 := by rw [sm_cons, sm_nil]; omega
theorem sm_perm (j : Int) {D E : List Bd} (h : D.Perm E) : sm j D = sm j E := by
  induction h with
  | nil => rfl
  | cons d _ ih => rw [sm_cons, sm_cons, ih]
  | swap d e D => rw [sm_cons, sm_cons, sm_cons, sm_cons]; omega
  | trans _ _ h1 h2 => exact h1.trans h2
theorem sm_bd (j : Int) (D : List Bd) (h : ∀ d ∈ D, d.2.2 = 1 ∨ d.2.2 = -1) : -(D.length : Int) ≤ sm j D ∧ sm j D ≤ D.length := by
  induction D with
  | nil => simp [sm]
  | cons d D ih =>
    have h1 := ih fun e he => h e (List.mem_cons_of_mem _ he)
    have h2 := h d (by simp)
    rw [sm_cons, List.length_cons]
    split <;> omega
def upTo (x : Int) (D : List Bd) : List Bd := D.filter fun d => decide (d.1 ≤ x)
theorem upTo_nil (x : Int) : upTo x [] = [] := rfl
theorem sm_other {i j : Int} (hij : i ≠ j) (x : Int) (l : List (Int × Int)) : sm i (upTo x (bnds j l)) = 0 := by
  have : ∀ D : List Bd, (∀ d ∈ D, d.2.1 = j) → sm i (upTo x D) = 0 := by
    intro D
    induction D with
    | nil => intro _; rfl
    | cons d D ih =>
      intro h
      have h1 := ih fun e he => h e (List.mem_cons_of_mem _ he)
      have h2 := h d (by simp)
      unfold upTo at *
      rw [List.filter_cons]
      split
      · rw [sm_cons, if_neg (by omega), h1]; rfl
      · exact h1
  exact this _ fun d hd => (bnds_in j l d hd).1
theorem sm_own (j x : Int) : ∀ l : List (Int × Int), 0 ≤ sm j (upTo x (bnds j l)) ∧ (memL l x = decide (0 < sm j (upTo x (bnds j l))))
  | [] => by simp [bnds, upTo, sm, memL]
  | p :: l => by
    obtain ⟨h1, h2⟩ := sm_own j x l
    rw [bnds_cons, memL_cons, h2]
    unfold upTo at *
    rw [List.filter_append, sm_append]
    cases hv : vld p.1 p.2 with
    | false => simp [cnt, hv, sm_nil, h1]
    | true =>
      have hp := vld_iff.1 hv
      have hc : cnt p.1 p.2 x = (decide (p.1 ≤ x) && decide (x < p.2)) := by unfold cnt; rw [hv]; rfl
      rw [hc]
      simp only [if_true, List.filter_cons, List.filter_nil]
      by_cases ha : p.1 ≤ x <;> by_cases hb : p.2 ≤ x
      · have : ¬ x < p.2 := by omega
        simp [ha, hb, sm_cons, sm_nil, this]; omega
      · have : x < p.2 := by omega
        simp [ha, hb, sm_cons, sm_nil, this]; omega
      · omega
      · simp [ha, hb, sm_nil]; omega
def atOf (D : List Bd) (k : Nat) : Int := (D.getD k (0, 0, 0)).1
/-- What the sweep has appended after k bounds. -/
def swS (f : Bool → Bool → Bool) (D : List Bd) : Nat → List (Int × Int)
  | 0 => []
  | k + 1 => swS f D k ++ (if 0 < k ∧ atOf D (k - 1) < atOf D k ∧ f (decide (0 < sm 0 (D.take k))) (decide (0 < sm 1 (D.take k))) = true then [(atOf D (k - 1), atOf D k)] else [])
theorem swS_len (f : Bool → Bool → Bool) (D : List Bd) : ∀ k, (swS f D k).length ≤ k
  | 0 => by simp [swS]
  | k + 1 => by
    have := swS_len f D k
    rw [swS, List.length_append]
    split <;> simp <;> omega

theorem insI_last {x : Int} : ∀ {L : List Int}, (∀ y ∈ L, y < x) → insI x L = L ++ [x]
  | [], _ => rfl
  | y :: L, h => by
    have := h y (by simp)
    rw [insI, if_pos this, insI_last fun z hz => h z (List.mem_cons_of_mem _ hz)]; rfl
theorem insI_same {x : Int} : ∀ {L : List Int}, L.Pairwise (· < ·) → x ∈ L → insI x L = L
  | [], _, h => by simp at h
  | y :: L, hs, h => by
    have h0 := List.pairwise_cons.1 hs
    unfold insI
    rcases List.mem_cons.1 h with rfl | h
    · rw [if_neg (by omega), if_neg (by omega)]
    · have := h0.1 x h
      rw [if_pos this, insI_same h0.2 h]
theorem elem_snoc (g : Int → Bool) (x y : Int) : ∀ L : List Int, elem g (L ++ [x, y]) = elem g (L ++ [x]) ++ (if g x then [(x, y)] else [])
  | [] => by simp [elem]
  | [z] => by simp [elem]
  | z :: w :: L => by
    have := elem_snoc g x y (w :: L)
    simp only [List.cons_append] at this ⊢
    rw [elem_two, elem_two, this, List.append_assoc]
def atsI (D : List Bd) : List Int := D.foldl (fun acc d => insI d.1 acc) []
theorem atsI_snoc (D : List Bd) (d : Bd) : atsI (D ++ [d]) = insI d.1 (atsI D) := by unfold atsI; rw [List.foldl_append]; rfl
theorem atsI_aux : ∀ (D : List Bd) (acc : List Int), acc.Pairwise (· < ·) → (D.foldl (fun acc d => insI d.1 acc) acc).Pairwise (· < ·) ∧ ∀ x, x ∈ D.foldl (fun acc d => insI d.1 acc) acc ↔ x ∈ acc ∨ ∃ d ∈ D, d.1 = x
  | [], acc, h => ⟨h, fun x => by simp⟩
  | d :: D, acc, h => by
    obtain ⟨h1, h2⟩ := atsI_aux D _ (insI_sorted (n := d.1) h)
    refine ⟨h1, fun x => ?_⟩
    rw [List.foldl_cons, h2, insI_mem]
    constructor
    · rintro ((rfl | h) | ⟨e, he, rfl⟩)
      · exact .inr ⟨d, by simp, rfl⟩
      · exact .inl h
      · exact .inr ⟨e, by simp [he], rfl⟩
    · rintro (h | ⟨e, he, rfl⟩)
      · exact .inl (.inr h)
      · rcases List.mem_cons.1 he with rfl | he
        · exact .inl (.inl rfl)
        · exact .inr ⟨e, he, rfl⟩
theorem atsI_sorted (D : List Bd) : (atsI D).Pairwise (· < ·) := (atsI_aux D [] .nil).1
theorem atsI_mem (D : List Bd) (x : Int) : x ∈ atsI D ↔ ∃ d ∈ D, d.1 = x := by
  have := (atsI_aux D [] .nil).2 x
  simpa [atsI] using this
/-- Bounds up to x among ascending ones that change at k: the first k. -/
theorem upTo_take {D : List Bd} (hs : D.Pairwise fun d e => d.1 ≤ e.1) {k : Nat} (h0 : 0 < k) (hk : k < D.length) (hlt : atOf D (k - 1) < atOf D k) : upTo (atOf D (k - 1)) D = D.take k := by
  have e1 : atOf D (k - 1) = (D[k - 1]'(by omega)).1 := by unfold atOf; rw [List.getD_eq_getElem?_getD, List.getElem?_eq_getElem (by omega)]; rfl
  have e2 : atOf D k = (D[k]).1 := by unfold atOf; rw [List.getD_eq_getElem?_getD, List.getElem?_eq_getElem hk]; rfl
  have hp := List.pairwise_iff_getElem.1 hs
  unfold upTo
  rw [show D.filter (fun d => decide (d.1 ≤ atOf D (k - 1))) = (D.take k ++ D.drop k).filter (fun d => decide (d.1 ≤ atOf D (k - 1))) by rw [List.take_append_drop], List.filter_append]
  have g1 : (D.take k).filter (fun d => decide (d.1 ≤ atOf D (k - 1))) = D.take k := by
    rw [List.filter_eq_self]
    intro d hd
    obtain ⟨i, hi, rfl⟩ := List.mem_iff_getElem.1 hd
    rw [List.length_take] at hi
    rw [List.getElem_take, decide_eq_true_eq, e1]
    rcases Nat.lt_or_ge i (k - 1) with h | h
    · exact hp i (k - 1) (by omega) (by omega) h
    · have : i = k - 1 := by omega
      subst this; exact Int.le_refl _
  have g2 : (D.drop k).filter (fun d => decide (d.1 ≤ atOf D (k - 1))) = [] := by
    rw [List.filter_eq_nil_iff]
    intro d hd
    obtain ⟨i, hi, rfl⟩ := List.mem_iff_getElem.1 hd
    rw [List.length_drop] at hi
    rw [List.getElem_drop, decide_eq_true_eq]
    have : (D[k]).1 ≤ (D[k + i]'(by omega)).1 := by
      rcases Nat.eq_zero_or_pos i with rfl | h
      · exact Int.le_refl _
      · exact hp k (k + i) (by omega) (by omega) (by omega)
    rw [← e2] at this
    omega
  rw [g1, g2, List.append_nil]
theorem last_ats {D : List Bd} (hs : D.Pairwise fun d e => d.1 ≤ e.1) : ∀ k, 0 < k → k ≤ D.length → ∃ L, atsI (D.take k) = L ++ [atOf D (k - 1)] ∧ ∀ y ∈ L, y < atOf D (k - 1)
  | 0, h, _ => absurd h (by omega)
  | k + 1, _, hk => by
    have hk' : k < D.length := hk
    have e2 : atOf D k = (D[k]).1 := by unfold atOf; rw [List.getD_eq_getElem?_getD, List.getElem?_eq_getElem hk']; rfl
    rw [List.take_succ_eq_append_getElem hk', atsI_snoc, Nat.add_sub_cancel, e2]
    rcases Nat.eq_zero_or_pos k with rfl | h0
    · exact ⟨[], rfl, by simp⟩
    · obtain ⟨L, hL, hlt⟩ := last_ats hs k h0 (by omega)
      have e1 : atOf D (k - 1) = (D[k - 1]'(by omega)).1 := by unfold atOf; rw [List.getD_eq_getElem?_getD, List.getElem?_eq_getElem (by omega)]; rfl
      have hle : (D[k - 1]'(by omega)).1 ≤ (D[k]).1 := List.pairwise_iff_getElem.1 hs (k - 1) k (by omega) hk' (by omega)
      have hsL := atsI_sorted (D.take k)
      rw [hL] at hsL ⊢
      by_cases he : atOf D (k - 1) = (D[k]).1
      · rw [← he, insI_same hsL (by simp)]
        exact ⟨L, rfl, hlt⟩
      · rw [insI_last (fun y hy => by
          rcases List.mem_append.1 hy with hy | hy
          · have := hlt y hy; omega
          · simp at hy; omega)]
        refine ⟨L ++ [atOf D (k - 1)], rfl, fun y hy => ?_⟩
        rcases List.mem_append.1 hy with hy | hy
        · have := hlt y hy; omega
        · simp at hy; omega
theorem swS_elem (f : Bool → Bool → Bool) (g : Int → Bool) {D : List Bd} (hs : D.Pairwise fun d e => d.1 ≤ e.1)
    (hg : ∀ x, f (decide (0 < sm 0 (upTo x D))) (decide (0 < sm 1 (upTo x D))) = g x) : ∀ k, k ≤ D.length → swS f D k = elem g (atsI (D.take k))
  | 0, _ => rfl
  | k + 1, hk => by
    have hk' : k < D.length := hk
    have e2 : atOf D k = (D[k]).1 := by unfold atOf; rw [List.getD_eq_getElem?_getD, List.getElem?_eq_getElem hk']; rfl
    rw [swS, swS_elem f g hs hg k (by omega), List.take_succ_eq_append_getElem hk', atsI_snoc, ← e2]
    rcases Nat.eq_zero_or_pos k with rfl | h0
    · simp [atsI, insI, elem]
    · obtain ⟨L, hL, hlt⟩ := last_ats hs k h0 (by omega)
      have e1 : atOf D (k - 1) = (D[k - 1]'(by omega)).1 := by unfold atOf; rw [List.getD_eq_getElem?_getD, List.getElem?_eq_getElem (by omega)]; rfl
      have hle : atOf D (k - 1) ≤ atOf D k := by rw [e1, e2]; exact List.pairwise_iff_getElem.1 hs (k - 1) k (by omega) hk' (by omega)
      have hsL := atsI_sorted (D.take k)
      rw [hL] at hsL ⊢
      by_cases he : atOf D (k - 1) = atOf D k
      · rw [if_neg (by omega), List.append_nil, ← he, insI_same hsL (by simp)]
      · have hlt2 : atOf D (k - 1) < atOf D k := by omega
        rw [insI_last (fun y hy => by
          rcases List.mem_append.1 hy with hy | hy
          · have := hlt y hy; omega
          · simp at hy; omega), List.append_assoc, List.singleton_append, elem_snoc]
        congr 1
        have h3 := hg (atOf D (k - 1))
        rw [upTo_take hs h0 hk' hlt2] at h3
        rw [h3]
        cases hgx : g (atOf D (k - 1)) <;> simp [h0, hlt2]
/-- The sweep over any sorted order of the bounds of a and b. -/
theorem sweep_is (f : Bool → Bool → Bool) (a b : List (Int × Int)) {D : List Bd} (hs : D.Pairwise fun d e => d.1 ≤ e.1) (hp : D.Perm (bnds 0 a ++ bnds 1 b)) :
    swS f D D.length = elem (gOf f a b) (pts (a ++ b)) := by
  have hup : ∀ x j, sm j (upTo x D) = sm j (upTo x (bnds 0 a)) + sm j (upTo x (bnds 1 b)) := fun x j => by
    unfold upTo
    rw [sm_perm j (hp.filter _), List.filter_append, sm_append]
  rw [swS_elem f (gOf f a b) hs (fun x => ?_) D.length (Nat.le_refl _), List.take_length]
  · congr 1
    refine sorted_ext (atsI_sorted _) (pts_sorted _) fun x => ?_
    rw [atsI_mem, pts_mem]
    have h1 : (∃ d ∈ D, d.1 = x) ↔ (∃ d ∈ bnds 0 a, d.1 = x) ∨ ∃ d ∈ bnds 1 b, d.1 = x := by
      constructor
      · rintro ⟨d, hd, h⟩
        rcases List.mem_append.1 (hp.mem_iff.1 hd) with hd | hd
        · exact .inl ⟨d, hd, h⟩
        · exact .inr ⟨d, hd, h⟩
      · rintro (⟨d, hd, h⟩ | ⟨d, hd, h⟩)
        · exact ⟨d, hp.mem_iff.2 (List.mem_append_left _ hd), h⟩
        · exact ⟨d, hp.mem_iff.2 (List.mem_append_right _ hd), h⟩
    rw [h1, bnds_at, bnds_at]
    constructor
    · rintro (⟨p, hp, h⟩ | ⟨p, hp, h⟩)
      · exact ⟨p, List.mem_append_left _ hp, h⟩
      · exact ⟨p, List.mem_append_right _ hp, h⟩
    · rintro ⟨p, hp, h⟩
      rcases List.mem_append.1 hp with hp | hp
      · exact .inl ⟨p, hp, h⟩
      · exact .inr ⟨p, hp, h⟩
  · unfold gOf
    rw [hup, hup, sm_other (by decide : (0 : Int) ≠ 1), sm_other (by decide : (1 : Int) ≠ 0), Int.add_zero, Int.zero_add, (sm_own 0 x a).2, (sm_own 1 x b).2]

/-- The span of a combination. -/
def comb (f : Bool → Bool → Bool) (a b : List (Int × Int)) : List (Int × Int) := jn (elem (gOf f a b) (pts (a ++ b)))
theorem sub_left {a b : List (Int × Int)} : ∀ p ∈ a, vld p.1 p.2 = true → p.1 ∈ pts (a ++ b) ∧ p.2 ∈ pts (a ++ b) := pts_sub fun _ hp => List.mem_append_left _ hp
theorem sub_right {a b : List (Int × Int)} : ∀ p ∈ b, vld p.1 p.2 = true → p.1 ∈ pts (a ++ b) ∧ p.2 ∈ pts (a ++ b) := pts_sub fun _ hp => List.mem_append_right _ hp
theorem elem_comb {f : Bool → Bool → Bool} (hf : f false false = false) (a b : List (Int × Int)) : ascB (-1) (elem (gOf f a b) (pts (a ++ b))) = true ∧ ∀ t, memL (elem (gOf f a b) (pts (a ++ b))) t = gOf f a b t :=
  elem_of hf (pts_sorted _) (pts_bd _) sub_left sub_right
theorem comb_sp {f : Bool → Bool → Bool} (hf : f false false = false) (a b : List (Int × Int)) : spB (-1) (comb f a b) = true := (jn_ok (elem_comb hf a b).1).1
theorem comb_mem {f : Bool → Bool → Bool} (hf : f false false = false) (a b : List (Int × Int)) (t : Int) : memL (comb f a b) t = f (memL a t) (memL b t) := by
  unfold comb
  rw [(jn_ok (elem_comb hf a b).1).2.1, (elem_comb hf a b).2]; rfl
/-- Two combinations with the same instants are the same span. -/
theorem comb_ext {f g : Bool → Bool → Bool} (hf : f false false = false) (hg : g false false = false) {a b c d : List (Int × Int)} (h : ∀ t, f (memL a t) (memL b t) = g (memL c t) (memL d t)) : comb f a b = comb g c d :=
  sp_ext (comb_sp hf a b) (comb_sp hg c d) fun t => by rw [comb_mem hf, comb_mem hg, h]
theorem comb_self {f : Bool → Bool → Bool} (hf : f false false = false) {a b l : List (Int × Int)} (hl : spB (-1) l = true) (h : ∀ t, f (memL a t) (memL b t) = memL l t) : comb f a b = l :=
  sp_ext (comb_sp hf a b) hl fun t => by rw [comb_mem hf, h]

theorem elem_congr {g g' : Int → Bool} {F : Int} : ∀ {P : List Int}, P.Pairwise (· < ·) → (∀ z ∈ P, z ≤ F) → (∀ x ∈ P, x < F → g x = g' x) → elem g P = elem g' P
  | [], _, _, _ => rfl
  | [_], _, _, _ => rfl
  | x :: y :: r, hs, hb, h => by
    have h0 := List.pairwise_cons.1 hs
    have := h0.1 y (by simp)
    have := hb y (by simp)
    rw [elem_two, elem_two, h x (by simp) (by omega), elem_congr h0.2 (fun z hz => hb z (List.mem_cons_of_mem _ hz)) fun z hz => h z (List.mem_cons_of_mem _ hz)]

/-! The reference's combinations. -/
def wantF (kind : Int) (a b : Bool) : Bool := if kind = 1 then a && b else if kind = 2 then a || b else if kind = 3 then a && !b else !a && !b
def all3 (a b : List (Int × Int)) : List (Int × Int) := (0, 1099511627776) :: (a ++ b)
def rcomb (kind : Int) (a b : List (Int × Int)) : List (Int × Int) := (elem (gOf (wantF kind) a b) (pts (all3 a b))).foldl rstep []
theorem rcomb_is {kind : Int} (h4 : wantF kind false false = false) (a b : List (Int × Int)) : rcomb kind a b = comb (wantF kind) a b := by
  have h := elem_of h4 (a := a) (b := b) (P := pts (all3 a b)) (pts_sorted _) (pts_bd _) (pts_sub fun _ hp => by unfold all3; simp [hp]) (pts_sub fun _ hp => by unfold all3; simp [hp])
  have hj := jn_ok h.1
  unfold rcomb
  rw [hj.2.2.2]
  exact sp_ext hj.1 (comb_sp h4 a b) fun t => by rw [hj.2.1, h.2, comb_mem h4]; rfl
theorem whole_mem (t : Int) : memL [(0, 1099511627776)] t = (decide (0 ≤ t) && decide (t < 1099511627776)) := by
  rw [memL_cons, memL_nil, Bool.or_false, cnt, show vld 0 1099511627776 = true by decide, Bool.true_and]
theorem rcomb_nor (l : List (Int × Int)) : rcomb 4 l [] = comb (fun x y => x && !y) [(0, 1099511627776)] l := by
  have hP : all3 l [] = [(0, 1099511627776)] ++ l := by simp [all3]
  unfold rcomb
  rw [hP]
  have hc : elem (gOf (wantF 4) l []) (pts ([(0, 1099511627776)] ++ l)) = elem (gOf (fun x y => x && !y) [(0, 1099511627776)] l) (pts ([(0, 1099511627776)] ++ l)) := by
    refine elem_congr (F := 1099511627776) (pts_sorted _) (fun z hz => (pts_bd _ z hz).2) fun x hx hlt => ?_
    have h0 := (pts_bd _ x hx).1
    unfold gOf
    rw [whole_mem, decide_eq_true h0, decide_eq_true hlt, memL_nil]
    simp [wantF]
  rw [hc]
  exact (jn_ok (elem_comb rfl _ _).1).2.2.2

/-! Lengths. -/
theorem lenS_cons (p : Int × Int) (l : List (Int × Int)) : lenS (p :: l) = (p.2 - p.1) + lenS l := by
  rw [show p :: l = [p] ++ l from rfl, lenS_append, lenS_one]
theorem lenS_nil : lenS [] = 0 := rfl
theorem lenS_bd : ∀ {z : Int} {l : List (Int × Int)}, ascB z l = true → z ≤ 1099511627776 → 0 ≤ lenS l ∧ z + lenS l ≤ 1099511627776 ∧ (lenS l = 0 ↔ l = [])
  | z, [], _, hz => by rw [lenS_nil]; simp; omega
  | z, p :: l, h, hz => by
    simp only [ascB, Bool.and_eq_true, decide_eq_true_eq] at h
    have hp := vld_iff.1 h.1.2
    have := lenS_bd h.2 hp.2.2
    rw [lenS_cons]
    refine ⟨by omega, by omega, ?_⟩
    simp; omega
theorem lenS_elem (g h : Int → Bool) : ∀ P : List Int, lenS (elem (fun x => g x || h x) P) + lenS (elem (fun x => g x && h x) P) = lenS (elem g P) + lenS (elem h P)
  | [] => rfl
  | [_] => rfl
  | x :: y :: r => by
    have := lenS_elem g h (y :: r)
    rw [elem_two, elem_two, elem_two, elem_two, lenS_append, lenS_append, lenS_append, lenS_append]
    cases g x <;> cases h x <;> simp [lenS_cons, lenS_nil] <;> omega
theorem lenS_diff (g h : Int → Bool) : ∀ P : List Int, lenS (elem (fun x => g x && !h x) P) = lenS (elem g P) - lenS (elem (fun x => g x && h x) P)
  | [] => rfl
  | [_] => rfl
  | x :: y :: r => by
    have := lenS_diff g h (y :: r)
    rw [elem_two, elem_two, elem_two, lenS_append, lenS_append, lenS_append]
    cases g x <;> cases h x <;> simp [lenS_cons, lenS_nil] <;> omega
def fA (x _ : Bool) : Bool := x
def fOr (x y : Bool) : Bool := x || y
def fAnd (x y : Bool) : Bool := x && y
def fSub (x y : Bool) : Bool := x && !y
def ofL (l : List (Int × Int)) : List (Int × Int) := comb fA l []
def lenL (l : List (Int × Int)) : Int := lenS (ofL l)
theorem lenS_comb {f : Bool → Bool → Bool} (hf : f false false = false) (a b : List (Int × Int)) : lenS (comb f a b) = lenS (elem (gOf f a b) (pts (a ++ b))) := (jn_ok (elem_comb hf a b).1).2.2.1
theorem ofL_left (a b : List (Int × Int)) : ofL a = comb fA a b := comb_ext rfl rfl fun _ => rfl
theorem ofL_right (a b : List (Int × Int)) : ofL b = comb (fun _ y => y) a b := comb_ext rfl rfl fun _ => rfl
theorem ofL_comb {f : Bool → Bool → Bool} (hf : f false false = false) (a b : List (Int × Int)) : ofL (comb f a b) = comb f a b := comb_self rfl (comb_sp hf a b) fun _ => rfl
theorem lenL_add (a b : List (Int × Int)) : lenL (comb fOr a b) + lenL (comb fAnd a b) = lenL a + lenL b := by
  unfold lenL
  rw [ofL_comb rfl, ofL_comb rfl, ofL_left a b, ofL_right a b, lenS_comb rfl, lenS_comb rfl, lenS_comb rfl, lenS_comb rfl]
  exact lenS_elem (memL a) (memL b) _
theorem lenL_sub (a b : List (Int × Int)) : lenL (comb fSub a b) = lenL a - lenL (comb fAnd a b) := by
  unfold lenL
  rw [ofL_comb rfl, ofL_comb rfl, ofL_left a b, lenS_comb rfl, lenS_comb rfl, lenS_comb rfl]
  exact lenS_diff (memL a) (memL b) _
theorem lenL_bd (l : List (Int × Int)) : 0 ≤ lenL l ∧ lenL l ≤ 1099511627776 ∧ (lenL l = 0 ↔ ofL l = []) := by
  have hs : spB (-1) (ofL l) = true := comb_sp rfl l []
  have h0 : ascB 0 (ofL l) = true := by
    cases he : ofL l with
    | nil => rfl
    | cons p r =>
      rw [he] at hs
      simp only [spB, Bool.and_eq_true, decide_eq_true_eq] at hs
      simp only [ascB, Bool.and_eq_true, decide_eq_true_eq]
      exact ⟨⟨by omega, hs.1.2⟩, spB_asc _ _ hs.2⟩
  have := lenS_bd h0 (by omega)
  exact ⟨this.1, by have := this.2.1; unfold lenL; omega, this.2.2⟩
/-- Lengths of the results. -/
theorem elem_len (g : Int → Bool) : ∀ P : List Int, (elem g P).length ≤ P.length
  | [] => by simp [elem]
  | [_] => by simp [elem]
  | x :: y :: r => by
    have := elem_len g (y :: r)
    rw [elem_two, List.length_append, List.length_cons, List.length_cons]
    rw [List.length_cons] at this
    split <;> simp <;> omega
theorem insI_len (n : Int) : ∀ l : List Int, (insI n l).length ≤ l.length + 1
  | [] => by simp [insI]
  | x :: l => by
    have := insI_len n l
    unfold insI
    split
    · simp; omega
    · split <;> simp
theorem pts_len_aux : ∀ (l : List (Int × Int)) (acc : List Int), (l.foldl ptsF acc).length ≤ acc.length + 2 * l.length
  | [], acc => by simp
  | p :: l, acc => by
    have h1 := pts_len_aux l (ptsF acc p)
    have h2 : (ptsF acc p).length ≤ acc.length + 2 := by
      unfold ptsF
      split
      · have := insI_len p.2 (insI p.1 acc); have := insI_len p.1 acc; omega
      · omega
    rw [List.foldl_cons, List.length_cons]; omega
theorem pts_len (l : List (Int × Int)) : (pts l).length ≤ 2 * l.length := by have := pts_len_aux l []; simpa [pts] using this
theorem jstep_len (acc : List (Int × Int)) (p : Int × Int) : (jstep acc p).length ≤ acc.length + 1 := by
  unfold jstep
  split
  · simp
  · split <;> simp
theorem jn_len_aux : ∀ (l acc : List (Int × Int)), (l.foldl jstep acc).length ≤ acc.length + l.length
  | [], acc => by simp
  | p :: l, acc => by
    have h1 := jn_len_aux l (jstep acc p); have h2 := jstep_len acc p
    rw [List.foldl_cons, List.length_cons]; omega
theorem comb_len (f : Bool → Bool → Bool) (a b : List (Int × Int)) : (comb f a b).length ≤ 2 * (a.length + b.length) := by
  have h1 := jn_len_aux (elem (gOf f a b) (pts (a ++ b))) []
  have h2 := elem_len (gOf f a b) (pts (a ++ b))
  have h3 := pts_len (a ++ b)
  rw [List.length_append] at h3
  unfold comb jn
  simp at h1; omega
end Go.Proofs.Ytbdioabeopnfeaa
