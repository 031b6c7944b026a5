/-
  Sets of instants as lists of periods: bounds, elementary periods, joining, and that a span is determined by its instants. Conditions: none.
-/
import Derived.Test.YtbdioabeopnfeaaBase
namespace Go.Proofs.Ytbdioabeopnfeaa

theorem ltge (a b : Int) : a < b ∨ b ≤ a := by omega
def memL (l : List (Int × Int)) (t : Int) : Bool := l.any fun p => cnt p.1 p.2 t
theorem memL_nil (t : Int) : memL [] t = false := rfl
theorem memL_cons (p : Int × Int) (l : List (Int × Int)) (t : Int) : memL (p :: l) t = (cnt p.1 p.2 t || memL l t) := rfl
theorem memL_append (l m : List (Int × Int)) (t : Int) : memL (l ++ m) t = (memL l t || memL m t) := by simp [memL]
theorem cnt_iff {a b t : Int} : cnt a b t = true ↔ 0 ≤ a ∧ a < b ∧ b ≤ 1099511627776 ∧ a ≤ t ∧ t < b := by simp [cnt, vld, and_assoc]
theorem vld_iff {a b : Int} : vld a b = true ↔ 0 ≤ a ∧ a < b ∧ b ≤ 1099511627776 := by simp [vld, and_assoc]

/-- Valid periods, ascending and apart, behind z. -/
def spB : Int → List (Int × Int) → Bool
  | _, [] => true
  | z, p :: l => decide (z < p.1) && vld p.1 p.2 && spB p.2 l
/-- Valid periods, ascending, behind z. -/
def ascB : Int → List (Int × Int) → Bool
  | _, [] => true
  | z, p :: l => decide (z ≤ p.1) && vld p.1 p.2 && ascB p.2 l
def lastTo (z : Int) (l : List (Int × Int)) : Int := ((l.getLast?).map (·.2)).getD z
theorem lastTo_snoc (z : Int) (l : List (Int × Int)) (p : Int × Int) : lastTo z (l ++ [p]) = p.2 := by simp [lastTo]
theorem lastTo_nil (z : Int) : lastTo z [] = z := rfl
theorem lastTo_cons (z : Int) (p : Int × Int) (l : List (Int × Int)) : lastTo z (p :: l) = lastTo p.2 l := by
  cases l with
  | nil => rfl
  | cons q l => simp [lastTo, List.getLast?_cons_cons]; cases h : (q :: l).getLast? with
    | none => simp at h
    | some x => rfl
theorem spB_snoc : ∀ (z : Int) (l : List (Int × Int)) (p : Int × Int), spB z (l ++ [p]) = (spB z l && decide (lastTo z l < p.1) && vld p.1 p.2)
  | z, [], p => by rw [List.nil_append, spB, spB, spB, lastTo_nil]; simp
  | z, q :: l, p => by rw [List.cons_append, spB, spB, spB_snoc q.2 l p, lastTo_cons]; simp [Bool.and_assoc]
theorem ascB_snoc : ∀ (z : Int) (l : List (Int × Int)) (p : Int × Int), ascB z (l ++ [p]) = (ascB z l && decide (lastTo z l ≤ p.1) && vld p.1 p.2)
  | z, [], p => by rw [List.nil_append, ascB, ascB, ascB, lastTo_nil]; simp
  | z, q :: l, p => by rw [List.cons_append, ascB, ascB, ascB_snoc q.2 l p, lastTo_cons]; simp [Bool.and_assoc]
theorem spB_asc : ∀ (z : Int) (l : List (Int × Int)), spB z l = true → ascB z l = true
  | _, [], _ => rfl
  | z, p :: l, h => by
    simp only [spB, Bool.and_eq_true, decide_eq_true_eq] at h
    simp only [ascB, Bool.and_eq_true, decide_eq_true_eq]
    exact ⟨⟨by omega, h.1.2⟩, spB_asc _ _ h.2⟩
theorem spB_lo : ∀ {z z' : Int} {l : List (Int × Int)}, spB z l = true → z' ≤ z → spB z' l = true
  | _, _, [], _, _ => rfl
  | z, z', p :: l, h, hz => by
    simp only [spB, Bool.and_eq_true, decide_eq_true_eq] at h ⊢
    exact ⟨⟨by omega, h.1.2⟩, h.2⟩
/-- Nothing lies before z. -/
theorem asc_before : ∀ {z : Int} {l : List (Int × Int)} {t : Int}, ascB z l = true → t < z → memL l t = false
  | _, [], _, _, _ => rfl
  | z, p :: l, t, h, ht => by
    simp only [ascB, Bool.and_eq_true, decide_eq_true_eq] at h
    have hp := vld_iff.1 h.1.2
    rw [memL_cons, asc_before (z := p.2) (l := l) (t := t) h.2 (by omega), Bool.or_false, Bool.eq_false_iff]
    intro hc
    have := cnt_iff.1 hc
    omega
theorem sp_at {z : Int} {p : Int × Int} {l : List (Int × Int)} (h : spB z (p :: l) = true) (t : Int) (ht : t ≤ p.2) : memL (p :: l) t = (decide (p.1 ≤ t) && decide (t < p.2)) := by
  simp only [spB, Bool.and_eq_true, decide_eq_true_eq] at h
  have hp := vld_iff.1 h.1.2
  have hl : memL l t = false := by
    cases l with
    | nil => rfl
    | cons q l =>
      have h2 := h.2
      simp only [spB, Bool.and_eq_true, decide_eq_true_eq] at h2
      refine asc_before (z := q.1) (l := q :: l) ?_ (by omega)
      simp only [ascB, Bool.and_eq_true, decide_eq_true_eq]
      exact ⟨⟨by omega, h2.1.2⟩, spB_asc _ _ h2.2⟩
  rw [memL_cons, hl, Bool.or_false, cnt, h.1.2, Bool.true_and]
/-- A span is determined by its instants. -/
theorem sp_ext : ∀ {z z' : Int} {l m : List (Int × Int)}, spB z l = true → spB z' m = true → (∀ t, memL l t = memL m t) → l = m
  | _, _, [], [], _, _, _ => rfl
  | _, z', [], q :: m, _, hm, h => by
    have hq := vld_iff.1 (by simp only [spB, Bool.and_eq_true] at hm; exact hm.1.2)
    have h1 := h q.1
    rw [sp_at hm _ (by omega), memL_nil] at h1
    simp [hq.2.1] at h1
  | z, _, p :: l, [], hl, _, h => by
    have hp := vld_iff.1 (by simp only [spB, Bool.and_eq_true] at hl; exact hl.1.2)
    have h1 := h p.1
    rw [sp_at hl _ (by omega), memL_nil] at h1
    simp [hp.2.1] at h1
  | z, z', p :: l, q :: m, hl, hm, h => by
    have hp := vld_iff.1 (by simp only [spB, Bool.and_eq_true] at hl; exact hl.1.2)
    have hq := vld_iff.1 (by simp only [spB, Bool.and_eq_true] at hm; exact hm.1.2)
    have e1 : p.1 = q.1 := by
      rcases ltge p.1 q.1 with hlt | hge
      · have h1 := h p.1
        rw [sp_at hl _ (by omega), sp_at hm _ (by omega)] at h1
        simp [hp.2.1] at h1; omega
      · rcases ltge q.1 p.1 with hlt | hge'
        · have h1 := h q.1
          rw [sp_at hl _ (by omega), sp_at hm _ (by omega)] at h1
          simp [hq.2.1] at h1; omega
        · omega
    have e2 : p.2 = q.2 := by
      rcases ltge p.2 q.2 with hlt | hge
      · have h1 := h p.2
        rw [sp_at hl _ (by omega), sp_at hm _ (by omega)] at h1
        simp at h1; omega
      · rcases ltge q.2 p.2 with hlt | hge'
        · have h1 := h q.2
          rw [sp_at hl _ (by omega), sp_at hm _ (by omega)] at h1
          simp at h1; omega
        · omega
    have e : p = q := Prod.ext e1 e2
    subst e
    simp only [spB, Bool.and_eq_true, decide_eq_true_eq] at hl hm
    rw [sp_ext hl.2 hm.2 fun t => ?_]
    rcases ltge t p.2 with hlt | hge
    · rw [asc_before (spB_asc _ _ hl.2) hlt, asc_before (spB_asc _ _ hm.2) hlt]
    · have h1 := h t
      rw [memL_cons, memL_cons, show cnt p.1 p.2 t = false by rw [Bool.eq_false_iff]; intro hc; have := cnt_iff.1 hc; omega] at h1
      simpa using h1

/-! Strictly ascending lists of bounds. -/
def insI (n : Int) : List Int → List Int
  | [] => [n]
  | x :: l => if x < n then x :: insI n l else if x > n then n :: x :: l else x :: l
theorem insI_mem {n x : Int} : ∀ {l : List Int}, x ∈ insI n l ↔ x = n ∨ x ∈ l
  | [] => by simp [insI]
  | y :: l => by
    unfold insI
    split
    · rw [List.mem_cons, insI_mem, List.mem_cons]
      constructor
      · rintro (h | h | h) <;> simp [h]
      · rintro (h | h | h) <;> simp [h]
    · split
      · simp
      · have : y = n := by omega
        subst this; simp
theorem insI_sorted {n : Int} : ∀ {l : List Int}, l.Pairwise (· < ·) → (insI n l).Pairwise (· < ·)
  | [], _ => by simp [insI]
  | y :: l, h => by
    have h0 := List.pairwise_cons.1 h
    unfold insI
    split
    · refine List.pairwise_cons.2 ⟨fun x hx => ?_, insI_sorted h0.2⟩
      rcases insI_mem.1 hx with rfl | hx
      · assumption
      · exact h0.1 x hx
    · split
      · refine List.pairwise_cons.2 ⟨fun x hx => ?_, h⟩
        rcases List.mem_cons.1 hx with rfl | hx
        · omega
        · have := h0.1 x hx; omega
      · exact h
theorem sorted_ext : ∀ {l m : List Int}, l.Pairwise (· < ·) → m.Pairwise (· < ·) → (∀ x, x ∈ l ↔ x ∈ m) → l = m
  | [], [], _, _, _ => rfl
  | [], y :: m, _, _, h => absurd ((h y).2 (by simp)) (by simp)
  | x :: l, [], _, _, h => absurd ((h x).1 (by simp)) (by simp)
  | x :: l, y :: m, hl, hm, h => by
    have h1 := List.pairwise_cons.1 hl
    have h2 := List.pairwise_cons.1 hm
    have e : x = y := by
      rcases List.mem_cons.1 ((h x).1 (by simp)) with e | hx
      · exact e
      · rcases List.mem_cons.1 ((h y).2 (by simp)) with e | hy
        · exact e.symm
        · have := h2.1 x hx; have := h1.1 y hy; omega
    subst e
    rw [sorted_ext h1.2 h2.2 fun z => ?_]
    constructor
    · intro hz
      rcases List.mem_cons.1 ((h z).1 (by simp [hz])) with e | h3
      · have := h1.1 z hz; omega
      · exact h3
    · intro hz
      rcases List.mem_cons.1 ((h z).2 (by simp [hz])) with e | h3
      · have := h2.1 z hz; omega
      · exact h3
def ptsF (acc : List Int) (p : Int × Int) : List Int := if vld p.1 p.2 then insI p.2 (insI p.1 acc) else acc
def pts (l : List (Int × Int)) : List Int := l.foldl ptsF []
theorem pts_aux : ∀ (l : List (Int × Int)) (acc : List Int), acc.Pairwise (· < ·) → (l.foldl ptsF acc).Pairwise (· < ·) ∧ ∀ x, x ∈ l.foldl ptsF acc ↔ x ∈ acc ∨ ∃ p ∈ l, vld p.1 p.2 = true ∧ (x = p.1 ∨ x = p.2)
  | [], acc, h => ⟨h, fun x => by simp⟩
  | p :: l, acc, h => by
    rw [List.foldl_cons]
    unfold ptsF
    split
    · rename_i hv
      obtain ⟨g1, g2⟩ := pts_aux l _ (insI_sorted (n := p.2) (insI_sorted (n := p.1) h))
      refine ⟨g1, fun x => ?_⟩
      have g3 := g2 x
      unfold ptsF at g3
      rw [g3, insI_mem, insI_mem]
      constructor
      · rintro ((h | h | h) | ⟨q, hq, h⟩)
        · exact .inr ⟨p, by simp, hv, .inr h⟩
        · exact .inr ⟨p, by simp, hv, .inl h⟩
        · exact .inl h
        · exact .inr ⟨q, by simp [hq], h⟩
      · rintro (h | ⟨q, hq, hv', h⟩)
        · exact .inl (.inr (.inr h))
        · rcases List.mem_cons.1 hq with rfl | hq
          · rcases h with h | h
            · exact .inl (.inr (.inl h))
            · exact .inl (.inl h)
          · exact .inr ⟨q, hq, hv', h⟩
    · rename_i hv
      obtain ⟨g1, g2⟩ := pts_aux l _ h
      refine ⟨g1, fun x => ?_⟩
      have g3 := g2 x
      unfold ptsF at g3
      rw [g3]
      constructor
      · rintro (h | ⟨q, hq, h⟩)
        · exact .inl h
        · exact .inr ⟨q, by simp [hq], h⟩
      · rintro (h | ⟨q, hq, hv', h⟩)
        · exact .inl h
        · rcases List.mem_cons.1 hq with rfl | hq
          · exact absurd hv' hv
          · exact .inr ⟨q, hq, hv', h⟩
theorem pts_sorted (l : List (Int × Int)) : (pts l).Pairwise (· < ·) := (pts_aux l [] .nil).1
theorem pts_mem (l : List (Int × Int)) (x : Int) : x ∈ pts l ↔ ∃ p ∈ l, vld p.1 p.2 = true ∧ (x = p.1 ∨ x = p.2) := by
  have := (pts_aux l [] .nil).2 x
  simpa [pts] using this

/-! Elementary periods. -/
def elem (g : Int → Bool) : List Int → List (Int × Int)
  | x :: y :: r => (if g x then [(x, y)] else []) ++ elem g (y :: r)
  | _ => []
theorem elem_two (g : Int → Bool) (x y : Int) (r : List Int) : elem g (x :: y :: r) = (if g x then [(x, y)] else []) ++ elem g (y :: r) := rfl
theorem elem_asc (g : Int → Bool) : ∀ (x : Int) (r : List Int), (x :: r).Pairwise (· < ·) → (∀ z ∈ x :: r, 0 ≤ z ∧ z ≤ 1099511627776) → ascB x (elem g (x :: r)) = true
  | x, [], _, _ => rfl
  | x, y :: r, h, hb => by
    have h0 := List.pairwise_cons.1 h
    have hxy := h0.1 y (by simp)
    have hx := hb x (by simp)
    have hy := hb y (by simp)
    have ih := elem_asc g y r h0.2 (fun z hz => hb z (List.mem_cons_of_mem _ hz))
    have ih2 : ascB x (elem g (y :: r)) = true := by
      cases he : elem g (y :: r) with
      | nil => rfl
      | cons p l =>
        rw [he] at ih
        simp only [ascB, Bool.and_eq_true, decide_eq_true_eq] at ih ⊢
        exact ⟨⟨by omega, ih.1.2⟩, ih.2⟩
    rw [elem_two]
    split
    · simp only [List.cons_append, List.nil_append, ascB, Bool.and_eq_true, decide_eq_true_eq]
      exact ⟨⟨by omega, vld_iff.2 ⟨hx.1, hxy, hy.2⟩⟩, ih⟩
    · exact ih2
theorem elem_mem (g : Int → Bool) : ∀ (x : Int) (r : List Int), (x :: r).Pairwise (· < ·) → (∀ z ∈ x :: r, 0 ≤ z ∧ z ≤ 1099511627776) →
    (∀ t u, u ∈ x :: r → u ≤ t → (∀ z ∈ x :: r, z ≤ u ∨ t < z) → g t = g u) → (∀ t, (∀ z ∈ x :: r, z ≤ t) → g t = false) → ∀ t, x ≤ t → memL (elem g (x :: r)) t = g t
  | x, [], _, _, _, ha, t, ht => by rw [ha t (by simpa using ht)]; rfl
  | x, y :: r, h, hb, hc, ha, t, ht => by
    have h0 := List.pairwise_cons.1 h
    have hxy := h0.1 y (by simp)
    have hx := hb x (by simp)
    have hy := hb y (by simp)
    have hbt : ∀ z ∈ y :: r, 0 ≤ z ∧ z ≤ 1099511627776 := fun z hz => hb z (List.mem_cons_of_mem _ hz)
    rw [elem_two, memL_append]
    rcases ltge t y with hlt | hge
    · rw [asc_before (elem_asc g y r h0.2 hbt) hlt, Bool.or_false]
      have hg := hc t x (by simp) ht (fun z hz => by
        rcases List.mem_cons.1 hz with rfl | hz
        · exact .inl (Int.le_refl _)
        · rcases List.mem_cons.1 hz with rfl | hz
          · exact .inr hlt
          · have := (List.pairwise_cons.1 h0.2).1 z hz; right; omega)
      rw [hg]
      split
      · rename_i hgx
        rw [hgx, memL_cons, memL_nil, Bool.or_false]
        exact cnt_iff.2 ⟨hx.1, hxy, hy.2, ht, hlt⟩
      · rename_i hgx; rw [Bool.eq_false_iff.2 hgx]; rfl
    · have ih := elem_mem g y r h0.2 hbt (fun t u hu htu hz => hc t u (List.mem_cons_of_mem _ hu) htu fun z hz' => by
        rcases List.mem_cons.1 hz' with rfl | hz'
        · rcases List.mem_cons.1 hu with rfl | hu
          · left; omega
          · have := (List.pairwise_cons.1 h0.2).1 u hu; left; omega
        · exact hz z hz') (fun t hz => ha t fun z hz' => by
        rcases List.mem_cons.1 hz' with rfl | hz'
        · have := hz y (by simp); omega
        · exact hz z hz') t hge
      rw [ih]
      split
      · rw [memL_cons, memL_nil, Bool.or_false, show cnt x y t = false by rw [Bool.eq_false_iff]; intro hcc; have := cnt_iff.1 hcc; omega, Bool.false_or]
      · rfl
/-- The instants of a list change at its bounds alone. -/
theorem mem_const {l : List (Int × Int)} {P : List Int} (hP : ∀ p ∈ l, vld p.1 p.2 = true → p.1 ∈ P ∧ p.2 ∈ P) (t u : Int) (hut : u ≤ t) (hz : ∀ z ∈ P, z ≤ u ∨ t < z) : memL l t = memL l u := by
  induction l with
  | nil => rfl
  | cons p l ih =>
    rw [memL_cons, memL_cons, ih fun q hq => hP q (List.mem_cons_of_mem _ hq)]
    congr 1
    cases hv : vld p.1 p.2 with
    | false => simp [cnt, hv]
    | true =>
      obtain ⟨h1, h2⟩ := hP p (by simp) hv
      have g1 := hz _ h1
      have g2 := hz _ h2
      unfold cnt
      rw [hv, Bool.true_and, Bool.true_and]
      congr 1
      · rw [decide_eq_decide]; omega
      · rw [decide_eq_decide]; omega
theorem mem_after {l : List (Int × Int)} {P : List Int} (hP : ∀ p ∈ l, vld p.1 p.2 = true → p.1 ∈ P ∧ p.2 ∈ P) (t : Int) (hz : ∀ z ∈ P, z ≤ t) : memL l t = false := by
  induction l with
  | nil => rfl
  | cons p l ih =>
    rw [memL_cons, ih fun q hq => hP q (List.mem_cons_of_mem _ hq), Bool.or_false, Bool.eq_false_iff]
    intro hc
    have h := cnt_iff.1 hc
    have := hz _ (hP p (by simp) (vld_iff.2 ⟨h.1, h.2.1, h.2.2.1⟩)).2
    omega
theorem mem_before {l : List (Int × Int)} {P : List Int} (hP : ∀ p ∈ l, vld p.1 p.2 = true → p.1 ∈ P ∧ p.2 ∈ P) (t : Int) (hz : ∀ z ∈ P, t < z) : memL l t = false := by
  induction l with
  | nil => rfl
  | cons p l ih =>
    rw [memL_cons, ih fun q hq => hP q (List.mem_cons_of_mem _ hq), Bool.or_false, Bool.eq_false_iff]
    intro hc
    have h := cnt_iff.1 hc
    have := hz _ (hP p (by simp) (vld_iff.2 ⟨h.1, h.2.1, h.2.2.1⟩)).1
    omega
theorem pts_sub {l m : List (Int × Int)} (h : ∀ p ∈ l, p ∈ m) : ∀ p ∈ l, vld p.1 p.2 = true → p.1 ∈ pts m ∧ p.2 ∈ pts m :=
  fun p hp hv => ⟨(pts_mem m _).2 ⟨p, h p hp, hv, .inl rfl⟩, (pts_mem m _).2 ⟨p, h p hp, hv, .inr rfl⟩⟩
theorem pts_bd (l : List (Int × Int)) : ∀ z ∈ pts l, 0 ≤ z ∧ z ≤ 1099511627776 := fun z hz => by
  obtain ⟨p, _, hv, h⟩ := (pts_mem l z).1 hz
  have := vld_iff.1 hv
  rcases h with rfl | rfl <;> omega
/-- The combination of a and b by f, at an instant. -/
def gOf (f : Bool → Bool → Bool) (a b : List (Int × Int)) (x : Int) : Bool := f (memL a x) (memL b x)
/-- The elementary periods of a combination stand for its instants. -/
theorem elem_of {f : Bool → Bool → Bool} (hf : f false false = false) {a b : List (Int × Int)} {P : List Int} (hs : P.Pairwise (· < ·)) (hb : ∀ z ∈ P, 0 ≤ z ∧ z ≤ 1099511627776)
    (ha : ∀ p ∈ a, vld p.1 p.2 = true → p.1 ∈ P ∧ p.2 ∈ P) (hb' : ∀ p ∈ b, vld p.1 p.2 = true → p.1 ∈ P ∧ p.2 ∈ P) :
    ascB (-1) (elem (gOf f a b) P) = true ∧ ∀ t, memL (elem (gOf f a b) P) t = gOf f a b t := by
  cases P with
  | nil =>
    refine ⟨rfl, fun t => ?_⟩
    unfold gOf
    rw [mem_before ha t (by simp), mem_before hb' t (by simp), hf]; rfl
  | cons x r =>
    have h1 := elem_asc (gOf f a b) x r hs hb
    refine ⟨?_, fun t => ?_⟩
    · cases he : elem (gOf f a b) (x :: r) with
      | nil => rfl
      | cons p l =>
        rw [he] at h1
        have := hb x (by simp)
        simp only [ascB, Bool.and_eq_true, decide_eq_true_eq] at h1 ⊢
        exact ⟨⟨by omega, h1.1.2⟩, h1.2⟩
    · rcases ltge t x with hlt | hge
      · have hz : ∀ z ∈ x :: r, t < z := fun z hz => by
          rcases List.mem_cons.1 hz with rfl | hz
          · exact hlt
          · have := (List.pairwise_cons.1 hs).1 z hz; omega
        rw [asc_before h1 hlt]
        unfold gOf
        rw [mem_before ha t hz, mem_before hb' t hz, hf]
      · exact elem_mem (gOf f a b) x r hs hb (fun t u _ hut hz => by unfold gOf; rw [mem_const ha t u hut hz, mem_const hb' t u hut hz]) (fun t hz => by unfold gOf; rw [mem_after ha t hz, mem_after hb' t hz, hf]) t hge

/-! Joining. -/
def jstep (acc : List (Int × Int)) (p : Int × Int) : List (Int × Int) :=
  match acc.getLast? with
  | none => acc ++ [p]
  | some q => if adj q.1 q.2 p.1 p.2 then acc.dropLast ++ [(q.1, p.2)] else acc ++ [p]
def jn (l : List (Int × Int)) : List (Int × Int) := l.foldl jstep []
def rstep (acc : List (Int × Int)) (p : Int × Int) : List (Int × Int) :=
  match acc.getLast? with
  | none => acc ++ [p]
  | some q => if q.2 ≥ p.1 then acc.dropLast ++ [(q.1, max q.2 p.2)] else acc ++ [p]
/-- The number of instants of periods that do not overlap. -/
def lenS (l : List (Int × Int)) : Int := l.foldl (fun n p => n + (p.2 - p.1)) 0
theorem lenS_aux : ∀ (l : List (Int × Int)) (n : Int), l.foldl (fun n p => n + (p.2 - p.1)) n = n + lenS l
  | [], n => by simp [lenS]
  | p :: l, n => by
    unfold lenS
    rw [List.foldl_cons, List.foldl_cons, lenS_aux l (n + (p.2 - p.1)), lenS_aux l (0 + (p.2 - p.1))]; omega
theorem lenS_append (l m : List (Int × Int)) : lenS (l ++ m) = lenS l + lenS m := by
  unfold lenS; rw [List.foldl_append, lenS_aux m]; rfl
theorem lenS_one (p : Int × Int) : lenS [p] = p.2 - p.1 := by simp [lenS]
theorem jstep_ok {acc : List (Int × Int)} {p : Int × Int} (h : spB (-1) acc = true) (hp : lastTo (-1) acc ≤ p.1) (hv : vld p.1 p.2 = true) :
    spB (-1) (jstep acc p) = true ∧ (∀ t, memL (jstep acc p) t = (memL acc t || cnt p.1 p.2 t)) ∧ lenS (jstep acc p) = lenS acc + (p.2 - p.1) ∧ lastTo (-1) (jstep acc p) = p.2 ∧ rstep acc p = jstep acc p := by
  have hpv := vld_iff.1 hv
  rcases List.eq_nil_or_concat acc with rfl | ⟨l, q, rfl⟩
  · refine ⟨?_, ?_, ?_, ?_, rfl⟩
    · simp [jstep, spB, hv]; omega
    · intro t; simp [jstep, memL]
    · simp [jstep, lenS]
    · simp [jstep, lastTo]
  · rw [List.concat_eq_append] at *
    rw [lastTo_snoc] at hp
    rw [spB_snoc, Bool.and_eq_true, Bool.and_eq_true, decide_eq_true_eq] at h
    have hq := vld_iff.1 h.2
    unfold jstep rstep
    rw [show (l ++ [q]).getLast? = some q by simp]
    simp only [List.dropLast_concat]
    by_cases hqp : q.2 = p.1
    · have ha : adj q.1 q.2 p.1 p.2 = true := by unfold adj; rw [h.2, hv]; simp [hqp]
      rw [if_pos ha, if_pos (by omega), show max q.2 p.2 = p.2 by omega]
      refine ⟨?_, ?_, ?_, lastTo_snoc _ _ _, rfl⟩
      · rw [spB_snoc, h.1.1, Bool.true_and, Bool.and_eq_true, decide_eq_true_eq]
        exact ⟨h.1.2, vld_iff.2 ⟨hq.1, by omega, hpv.2.2⟩⟩
      · intro t
        rw [memL_append, memL_append, memL_cons, memL_cons, memL_nil, Bool.or_false, Bool.or_false, Bool.or_assoc]
        congr 1
        rw [Bool.eq_iff_iff, Bool.or_eq_true, cnt_iff, cnt_iff, cnt_iff]
        omega
      · rw [lenS_append, lenS_append, lenS_one, lenS_one]; simp; omega
    · have ha : adj q.1 q.2 p.1 p.2 = false := by
        rw [Bool.eq_false_iff]; intro ha
        simp [adj, h.2, hv] at ha; omega
      rw [if_neg (by rw [ha]; decide), if_neg (by omega)]
      refine ⟨?_, ?_, ?_, lastTo_snoc _ _ _, rfl⟩
      · rw [spB_snoc, spB_snoc, lastTo_snoc, h.1.1, h.2, hv]; simp; exact ⟨h.1.2, by omega⟩
      · intro t; rw [memL_append, memL_cons, memL_nil, Bool.or_false]
      · rw [lenS_append, lenS_one]
theorem jn_aux : ∀ (l acc : List (Int × Int)), spB (-1) acc = true → ascB (lastTo (-1) acc) l = true →
    spB (-1) (l.foldl jstep acc) = true ∧ (∀ t, memL (l.foldl jstep acc) t = (memL acc t || memL l t)) ∧ lenS (l.foldl jstep acc) = lenS acc + lenS l ∧ l.foldl rstep acc = l.foldl jstep acc
  | [], acc, h, _ => ⟨h, fun t => by simp [memL], by simp [lenS], rfl⟩
  | p :: l, acc, h, ha => by
    simp only [ascB, Bool.and_eq_true, decide_eq_true_eq] at ha
    obtain ⟨g1, g2, g3, g4, g5⟩ := jstep_ok h ha.1.1 ha.1.2
    obtain ⟨k1, k2, k3, k4⟩ := jn_aux l (jstep acc p) g1 (by rw [g4]; exact ha.2)
    rw [List.foldl_cons, List.foldl_cons, g5]
    refine ⟨k1, fun t => ?_, ?_, k4⟩
    · rw [k2, g2, memL_cons, Bool.or_assoc]
    · rw [k3, g3]
      have : lenS (p :: l) = (p.2 - p.1) + lenS l := by
        rw [show p :: l = [p] ++ l from rfl, lenS_append, lenS_one]
      omega
theorem jn_ok {l : List (Int × Int)} (h : ascB (-1) l = true) : spB (-1) (jn l) = true ∧ (∀ t, memL (jn l) t = memL l t) ∧ lenS (jn l) = lenS l ∧ l.foldl rstep [] = jn l := by
  obtain ⟨h1, h2, h3, h4⟩ := jn_aux l [] rfl h
  exact ⟨h1, fun t => by rw [jn, h2]; rfl, by rw [jn, h3]; simp [lenS], h4⟩
end Go.Proofs.Ytbdioabeopnfeaa
