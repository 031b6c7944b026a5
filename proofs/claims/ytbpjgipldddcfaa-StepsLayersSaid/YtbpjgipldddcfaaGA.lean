import Derived.WalkKit
import Derived.Lib.Hide
import Derived.Laws.BitsLemmas
/-
  Small words for this seat's texts: what a call leaves as it was (cells and marks below the old heap), and what validity of a period means in numbers. Conditions: none.
-/
namespace Go.Proofs.Ytbpjgipldddcfaa
set_option maxRecDepth 100000
set_option linter.unusedVariables false
set_option linter.unusedSimpArgs false
open Go.RowKit

theorem bcell {W w1 : World} (hb : Below W.heap.size W w1) : (∀ b o, b < W.heap.size → w1.cell? ⟨b, o, none⟩ = W.cell? ⟨b, o, none⟩) ∧ (∀ b o, b < W.heap.size → w1.frozen? ⟨b, o, none⟩ = W.frozen? ⟨b, o, none⟩) :=
  ⟨fun b o h => hb.cell (p := ⟨b, o, none⟩) h, fun b o h => hb.frozen (p := ⟨b, o, none⟩) h⟩

theorem bcellB {B : Nat} {W w1 : World} (hb : Below B W w1) : (∀ b o, b < B → w1.cell? ⟨b, o, none⟩ = W.cell? ⟨b, o, none⟩) ∧ (∀ b o, b < B → w1.frozen? ⟨b, o, none⟩ = W.frozen? ⟨b, o, none⟩) :=
  ⟨fun b o h => hb.cell (p := ⟨b, o, none⟩) h, fun b o h => hb.frozen (p := ⟨b, o, none⟩) h⟩

/-- A period's validity. -/
def vld (a b : Int) : Bool := decide (0 ≤ a) && decide (a < b) && decide (b ≤ 1099511627776)
def cnt (a b t : Int) : Bool := vld a b && decide (a ≤ t) && decide (t < b)
def cvr (a b c d : Int) : Bool := vld a b && vld c d && decide (a ≤ c) && decide (d ≤ b)
def ovl (a b c d : Int) : Bool := vld a b && vld c d && decide (a < d) && decide (c < b)
def adj (a b c d : Int) : Bool := vld a b && vld c d && ((b == c) || (d == a))
def prd (a b : Int) : Value := .agg #[.int .i64 a, .int .i64 b]
end Go.Proofs.Ytbpjgipldddcfaa
/-
  Sets of instants as lists of periods: bounds, elementary periods, joining, and that a span is determined by its instants. Conditions: none.
-/
namespace Go.Proofs.Ytbpjgipldddcfaa
set_option maxRecDepth 100000
set_option linter.unusedVariables false
set_option linter.unusedSimpArgs false

theorem ltge (a b : Int) : a < b ∨ b ≤ a := by omega
def memL (l : List (Int × Int)) (t : Int) : Bool := l.any fun p => cnt p.1 p.2 t
theorem memL_nil (t : Int) : memL [] t = false := rfl
theorem memL_cons (p : Int × Int) (l : List (Int × Int)) (t : Int) : memL (p :: l) t = (cnt p.1 p.2 t || memL l t) := rfl
theorem memL_append (l m : List (Int × Int)) (t : Int) : memL (l ++ m) t = (memL l t || memL m t) := by simp [memL]
theorem cnt_iff {a b t : Int} : cnt a b t = true ↔ 0 ≤ a ∧ a < b ∧ b ≤ 1099511627776 ∧ a ≤ t ∧ t < b := by simp [cnt, vld, and_assoc]
theorem vld_iff {a b : Int} : vld a b = true ↔ 0 ≤ a ∧ a < b ∧ b ≤ 1099511627776 := by simp [vld, and_assoc]

/-- Valid periods, ascending and apart, behind z. -/
def spB : Int → List (Int × Int) → Bool
  | _, [] => true
  | z, p :: l => decide (z < p.1) && vld p.1 p.2 && spB p.2 l
/-- Valid periods, ascending, behind z. -/
def ascB : Int → List (Int × Int) → Bool
  | _, [] => true
  | z, p :: l => decide (z ≤ p.1) && vld p.1 p.2 && ascB p.2 l
def lastTo (z : Int) (l : List (Int × Int)) : Int := ((l.getLast?).map (·.2)).getD z
theorem lastTo_snoc (z : Int) (l : List (Int × Int)) (p : Int × Int) : lastTo z (l ++ [p]) = p.2 := by simp [lastTo]
theorem lastTo_nil (z : Int) : lastTo z [] = z := rfl
theorem lastTo_cons (z : Int) (p : Int × Int) (l : List (Int × Int)) : lastTo z (p :: l) = lastTo p.2 l := by
  cases l with
  | nil => rfl
  | cons q l => simp [lastTo, List.getLast?_cons_cons]; cases h : (q :: l).getLast? with
    | none => simp at h
    | some x => rfl
theorem spB_snoc : ∀ (z : Int) (l : List (Int × Int)) (p : Int × Int), spB z (l ++ [p]) = (spB z l && decide (lastTo z l < p.1) && vld p.1 p.2)
  | z, [], p => by rw [List.nil_append, spB, spB, spB, lastTo_nil]; simp
  | z, q :: l, p => by rw [List.cons_append, spB, spB, spB_snoc q.2 l p, lastTo_cons]; simp [Bool.and_assoc]
theorem ascB_snoc : ∀ (z : Int) (l : List (Int × Int)) (p : Int × Int), ascB z (l ++ [p]) = (ascB z l && decide (lastTo z l ≤ p.1) && vld p.1 p.2)
  | z, [], p => by rw [List.nil_append, ascB, ascB, ascB, lastTo_nil]; simp
  | z, q :: l, p => by rw [List.cons_append, ascB, ascB, ascB_snoc q.2 l p, lastTo_cons]; simp [Bool.and_assoc]
theorem spB_asc : ∀ (z : Int) (l : List (Int × Int)), spB z l = true → ascB z l = true
  | _, [], _ => rfl
  | z, p :: l, h => by
    simp only [spB, Bool.and_eq_true, decide_eq_true_eq] at h
    simp only [ascB, Bool.and_eq_true, decide_eq_true_eq]
    exact ⟨⟨by omega, h.1.2⟩, spB_asc _ _ h.2⟩
theorem spB_lo : ∀ {z z' : Int} {l : List (Int × Int)}, spB z l = true → z' ≤ z → spB z' l = true
  | _, _, [], _, _ => rfl
  | z, z', p :: l, h, hz => by
    simp only [spB, Bool.and_eq_true, decide_eq_true_eq] at h ⊢
    exact ⟨⟨by omega, h.1.2⟩, h.2⟩
/-- Nothing lies before z. -/
theorem asc_before : ∀ {z : Int} {l : List (Int × Int)} {t : Int}, ascB z l = true → t < z → memL l t = false
  | _, [], _, _, _ => rfl
  | z, p :: l, t, h, ht => by
    simp only [ascB, Bool.and_eq_true, decide_eq_true_eq] at h
    have hp := vld_iff.1 h.1.2
    rw [memL_cons, asc_before (z := p.2) (l := l) (t := t) h.2 (by omega), Bool.or_false, Bool.eq_false_iff]
    intro hc
    have := cnt_iff.1 hc
    omega
theorem sp_at {z : Int} {p : Int × Int} {l : List (Int × Int)} (h : spB z (p :: l) = true) (t : Int) (ht : t ≤ p.2) : memL (p :: l) t = (decide (p.1 ≤ t) && decide (t < p.2)) := by
  simp only [spB, Bool.and_eq_true, decide_eq_true_eq] at h
  have hp := vld_iff.1 h.1.2
  have hl : memL l t = false := by
    cases l with
    | nil => rfl
    | cons q l =>
      have h2 := h.2
      simp only [spB, Bool.and_eq_true, decide_eq_true_eq] at h2
      refine asc_before (z := q.1) (l := q :: l) ?_ (by omega)
      simp only [ascB, Bool.and_eq_true, decide_eq_true_eq]
      exact ⟨⟨by omega, h2.1.2⟩, spB_asc _ _ h2.2⟩
  rw [memL_cons, hl, Bool.or_false, cnt, h.1.2, Bool.true_and]
/-- A span is determined by its instants. -/
theorem sp_ext : ∀ {z z' : Int} {l m : List (Int × Int)}, spB z l = true → spB z' m = true → (∀ t, memL l t = memL m t) → l = m
  | _, _, [], [], _, _, _ => rfl
  | _, z', [], q :: m, _, hm, h => by
    have hq := vld_iff.1 (by simp only [spB, Bool.and_eq_true] at hm; exact hm.1.2)
    have h1 := h q.1
    rw [sp_at hm _ (by omega), memL_nil] at h1
    simp [hq.2.1] at h1
  | z, _, p :: l, [], hl, _, h => by
    have hp := vld_iff.1 (by simp only [spB, Bool.and_eq_true] at hl; exact hl.1.2)
    have h1 := h p.1
    rw [sp_at hl _ (by omega), memL_nil] at h1
    simp [hp.2.1] at h1
  | z, z', p :: l, q :: m, hl, hm, h => by
    have hp := vld_iff.1 (by simp only [spB, Bool.and_eq_true] at hl; exact hl.1.2)
    have hq := vld_iff.1 (by simp only [spB, Bool.and_eq_true] at hm; exact hm.1.2)
    have e1 : p.1 = q.1 := by
      rcases ltge p.1 q.1 with hlt | hge
      · have h1 := h p.1
        rw [sp_at hl _ (by omega), sp_at hm _ (by omega)] at h1
        simp [hp.2.1] at h1; omega
      · rcases ltge q.1 p.1 with hlt | hge'
        · have h1 := h q.1
          rw [sp_at hl _ (by omega), sp_at hm _ (by omega)] at h1
          simp [hq.2.1] at h1; omega
        · omega
    have e2 : p.2 = q.2 := by
      rcases ltge p.2 q.2 with hlt | hge
      · have h1 := h p.2
        rw [sp_at hl _ (by omega), sp_at hm _ (by omega)] at h1
        simp at h1; omega
      · rcases ltge q.2 p.2 with hlt | hge'
        · have h1 := h q.2
          rw [sp_at hl _ (by omega), sp_at hm _ (by omega)] at h1
          simp at h1; omega
        · omega
    have e : p = q := Prod.ext e1 e2
    subst e
    simp only [spB, Bool.and_eq_true, decide_eq_true_eq] at hl hm
    rw [sp_ext hl.2 hm.2 fun t => ?_]
    rcases ltge t p.2 with hlt | hge
    · rw [asc_before (spB_asc _ _ hl.2) hlt, asc_before (spB_asc _ _ hm.2) hlt]
    · have h1 := h t
      rw [memL_cons, memL_cons, show cnt p.1 p.2 t = false by rw [Bool.eq_false_iff]; intro hc; have := cnt_iff.1 hc; omega] at h1
      simpa using h1

/-! Strictly ascending lists of bounds. -/
def insI (n : Int) : List Int → List Int
  | [] => [n]
  | x :: l => if x < n then x :: insI n l else if x > n then n :: x :: l else x :: l
theorem insI_mem {n x : Int} : ∀ {l : List Int}, x ∈ insI n l ↔ x = n ∨ x ∈ l
  | [] => by simp [insI]
  | y :: l => by
    unfold insI
    split
    · rw [List.mem_cons, insI_mem, List.mem_cons]
      constructor
      · rintro (h | h | h) <;> simp [h]
      · rintro (h | h | h) <;> simp [h]
    · split
      · simp
      · have : y = n := by omega
        subst this; simp
theorem insI_sorted {n : Int} : ∀ {l : List Int}, l.Pairwise (· < ·) → (insI n l).Pairwise (· < ·)
  | [], _ => by simp [insI]
  | y :: l, h => by
    have h0 := List.pairwise_cons.1 h
    unfold insI
    split
    · refine List.pairwise_cons.2 ⟨fun x hx => ?_, insI_sorted h0.2⟩
      rcases insI_mem.1 hx with rfl | hx
      · assumption
      · exact h0.1 x hx
    · split
      · refine List.pairwise_cons.2 ⟨fun x hx => ?_, h⟩
        rcases List.mem_cons.1 hx with rfl | hx
        · omega
        · have := h0.1 x hx; omega
      · exact h
theorem sorted_ext : ∀ {l m : List Int}, l.Pairwise (· < ·) → m.Pairwise (· < ·) → (∀ x, x ∈ l ↔ x ∈ m) → l = m
  | [], [], _, _, _ => rfl
  | [], y :: m, _, _, h => absurd ((h y).2 (by simp)) (by simp)
  | x :: l, [], _, _, h => absurd ((h x).1 (by simp)) (by simp)
  | x :: l, y :: m, hl, hm, h => by
    have h1 := List.pairwise_cons.1 hl
    have h2 := List.pairwise_cons.1 hm
    have e : x = y := by
      rcases List.mem_cons.1 ((h x).1 (by simp)) with e | hx
      · exact e
      · rcases List.mem_cons.1 ((h y).2 (by simp)) with e | hy
        · exact e.symm
        · have := h2.1 x hx; have := h1.1 y hy; omega
    subst e
    rw [sorted_ext h1.2 h2.2 fun z => ?_]
    constructor
    · intro hz
      rcases List.mem_cons.1 ((h z).1 (by simp [hz])) with e | h3
      · have := h1.1 z hz; omega
      · exact h3
    · intro hz
      rcases List.mem_cons.1 ((h z).2 (by simp [hz])) with e | h3
      · have := h2.1 z hz; omega
      · exact h3
def ptsF (acc : List Int) (p : Int × Int) : List Int := if vld p.1 p.2 then insI p.2 (insI p.1 acc) else acc
def pts (l : List (Int × Int)) : List Int := l.foldl ptsF []
theorem pts_aux : ∀ (l : List (Int × Int)) (acc : List Int), acc.Pairwise (· < ·) → (l.foldl ptsF acc).Pairwise (· < ·) ∧ ∀ x, x ∈ l.foldl ptsF acc ↔ x ∈ acc ∨ ∃ p ∈ l, vld p.1 p.2 = true ∧ (x = p.1 ∨ x = p.2)
  | [], acc, h => ⟨h, fun x => by simp⟩
  | p :: l, acc, h => by
    rw [List.foldl_cons]
    unfold ptsF
    split
    · rename_i hv
      obtain ⟨g1, g2⟩ := pts_aux l _ (insI_sorted (n := p.2) (insI_sorted (n := p.1) h))
      refine ⟨g1, fun x => ?_⟩
      have g3 := g2 x
      unfold ptsF at g3
      rw [g3, insI_mem, insI_mem]
      constructor
      · rintro ((h | h | h) | ⟨q, hq, h⟩)
        · exact .inr ⟨p, by simp, hv, .inr h⟩
        · exact .inr ⟨p, by simp, hv, .inl h⟩
        · exact .inl h
        · exact .inr ⟨q, by simp [hq], h⟩
      · rintro (h | ⟨q, hq, hv', h⟩)
        · exact .inl (.inr (.inr h))
        · rcases List.mem_cons.1 hq with rfl | hq
          · rcases h with h | h
            · exact .inl (.inr (.inl h))
            · exact .inl (.inl h)
          · exact .inr ⟨q, hq, hv', h⟩
    · rename_i hv
      obtain ⟨g1, g2⟩ := pts_aux l _ h
      refine ⟨g1, fun x => ?_⟩
      have g3 := g2 x
      unfold ptsF at g3
      rw [g3]
      constructor
      · rintro (h | ⟨q, hq, h⟩)
        · exact .inl h
        · exact .inr ⟨q, by simp [hq], h⟩
      · rintro (h | ⟨q, hq, hv', h⟩)
        · exact .inl h
        · rcases List.mem_cons.1 hq with rfl | hq
          · exact absurd hv' hv
          · exact .inr ⟨q, hq, hv', h⟩
theorem pts_sorted (l : List (Int × Int)) : (pts l).Pairwise (· < ·) := (pts_aux l [] .nil).1
theorem pts_mem (l : List (Int × Int)) (x : Int) : x ∈ pts l ↔ ∃ p ∈ l, vld p.1 p.2 = true ∧ (x = p.1 ∨ x = p.2) := by
  have := (pts_aux l [] .nil).2 x
  simpa [pts] using this

/-! Elementary periods. -/
def elem (g : Int → Bool) : List Int → List (Int × Int)
  | x :: y :: r => (if g x then [(x, y)] else []) ++ elem g (y :: r)
  | _ => []
theorem elem_two (g : Int → Bool) (x y : Int) (r : List Int) : elem g (x :: y :: r) = (if g x then [(x, y)] else []) ++ elem g (y :: r) := rfl
theorem elem_asc (g : Int → Bool) : ∀ (x : Int) (r : List Int), (x :: r).Pairwise (· < ·) → (∀ z ∈ x :: r, 0 ≤ z ∧ z ≤ 1099511627776) → ascB x (elem g (x :: r)) = true
  | x, [], _, _ => rfl
  | x, y :: r, h, hb => by
    have h0 := List.pairwise_cons.1 h
    have hxy := h0.1 y (by simp)
    have hx := hb x (by simp)
    have hy := hb y (by simp)
    have ih := elem_asc g y r h0.2 (fun z hz => hb z (List.mem_cons_of_mem _ hz))
    have ih2 : ascB x (elem g (y :: r)) = true := by
      cases he : elem g (y :: r) with
      | nil => rfl
      | cons p l =>
        rw [he] at ih
        simp only [ascB, Bool.and_eq_true, decide_eq_true_eq] at ih ⊢
        exact ⟨⟨by omega, ih.1.2⟩, ih.2⟩
    rw [elem_two]
    split
    · simp only [List.cons_append, List.nil_append, ascB, Bool.and_eq_true, decide_eq_true_eq]
      exact ⟨⟨by omega, vld_iff.2 ⟨hx.1, hxy, hy.2⟩⟩, ih⟩
    · exact ih2
theorem elem_mem (g : Int → Bool) : ∀ (x : Int) (r : List Int), (x :: r).Pairwise (· < ·) → (∀ z ∈ x :: r, 0 ≤ z ∧ z ≤ 1099511627776) →
    (∀ t u, u ∈ x :: r → u ≤ t → (∀ z ∈ x :: r, z ≤ u ∨ t < z) → g t = g u) → (∀ t, (∀ z ∈ x :: r, z ≤ t) → g t = false) → ∀ t, x ≤ t → memL (elem g (x :: r)) t = g t
  | x, [], _, _, _, ha, t, ht => by rw [ha t (by simpa using ht)]; rfl
  | x, y :: r, h, hb, hc, ha, t, ht => by
    have h0 := List.pairwise_cons.1 h
    have hxy := h0.1 y (by simp)
    have hx := hb x (by simp)
    have hy := hb y (by simp)
    have hbt : ∀ z ∈ y :: r, 0 ≤ z ∧ z ≤ 1099511627776 := fun z hz => hb z (List.mem_cons_of_mem _ hz)
    rw [elem_two, memL_append]
    rcases ltge t y with hlt | hge
    · rw [asc_before (elem_asc g y r h0.2 hbt) hlt, Bool.or_false]
      have hg := hc t x (by simp) ht (fun z hz => by
        rcases List.mem_cons.1 hz with rfl | hz
        · exact .inl (Int.le_refl _)
        · rcases List.mem_cons.1 hz with rfl | hz
          · exact .inr hlt
          · have := (List.pairwise_cons.1 h0.2).1 z hz; right; omega)
      rw [hg]
      split
      · rename_i hgx
        rw [hgx, memL_cons, memL_nil, Bool.or_false]
        exact cnt_iff.2 ⟨hx.1, hxy, hy.2, ht, hlt⟩
      · rename_i hgx; rw [Bool.eq_false_iff.2 hgx]; rfl
    · have ih := elem_mem g y r h0.2 hbt (fun t u hu htu hz => hc t u (List.mem_cons_of_mem _ hu) htu fun z hz' => by
        rcases List.mem_cons.1 hz' with rfl | hz'
        · rcases List.mem_cons.1 hu with rfl | hu
          · left; omega
          · have := (List.pairwise_cons.1 h0.2).1 u hu; left; omega
        · exact hz z hz') (fun t hz => ha t fun z hz' => by
        rcases List.mem_cons.1 hz' with rfl | hz'
        · have := hz y (by simp); omega
        · exact hz z hz') t hge
      rw [ih]
      split
      · rw [memL_cons, memL_nil, Bool.or_false, show cnt x y t = false by rw [Bool.eq_false_iff]; intro hcc; have := cnt_iff.1 hcc; omega, Bool.false_or]
      · rfl
/-- The instants of a list change at its bounds alone. -/
theorem mem_const {l : List (Int × Int)} {P : List Int} (hP : ∀ p ∈ l, vld p.1 p.2 = true → p.1 ∈ P ∧ p.2 ∈ P) (t u : Int) (hut : u ≤ t) (hz : ∀ z ∈ P, z ≤ u ∨ t < z) : memL l t = memL l u := by
  induction l with
  | nil => rfl
  | cons p l ih =>
    rw [memL_cons, memL_cons, ih fun q hq => hP q (List.mem_cons_of_mem _ hq)]
    congr 1
    cases hv : vld p.1 p.2 with
    | false => simp [cnt, hv]
    | true =>
      obtain ⟨h1, h2⟩ := hP p (by simp) hv
      have g1 := hz _ h1
      have g2 := hz _ h2
      unfold cnt
      rw [hv, Bool.true_and, Bool.true_and]
      congr 1
      · rw [decide_eq_decide]; omega
      · rw [decide_eq_decide]; omega
theorem mem_after {l : List (Int × Int)} {P : List Int} (hP : ∀ p ∈ l, vld p.1 p.2 = true → p.1 ∈ P ∧ p.2 ∈ P) (t : Int) (hz : ∀ z ∈ P, z ≤ t) : memL l t = false := by
  induction l with
  | nil => rfl
  | cons p l ih =>
    rw [memL_cons, ih fun q hq => hP q (List.mem_cons_of_mem _ hq), Bool.or_false, Bool.eq_false_iff]
    intro hc
    have h := cnt_iff.1 hc
    have := hz _ (hP p (by simp) (vld_iff.2 ⟨h.1, h.2.1, h.2.2.1⟩)).2
    omega
theorem mem_before {l : List (Int × Int)} {P : List Int} (hP : ∀ p ∈ l, vld p.1 p.2 = true → p.1 ∈ P ∧ p.2 ∈ P) (t : Int) (hz : ∀ z ∈ P, t < z) : memL l t = false := by
  induction l with
  | nil => rfl
  | cons p l ih =>
    rw [memL_cons, ih fun q hq => hP q (List.mem_cons_of_mem _ hq), Bool.or_false, Bool.eq_false_iff]
    intro hc
    have h := cnt_iff.1 hc
    have := hz _ (hP p (by simp) (vld_iff.2 ⟨h.1, h.2.1, h.2.2.1⟩)).1
    omega
theorem pts_sub {l m : List (Int × Int)} (h : ∀ p ∈ l, p ∈ m) : ∀ p ∈ l, vld p.1 p.2 = true → p.1 ∈ pts m ∧ p.2 ∈ pts m :=
  fun p hp hv => ⟨(pts_mem m _).2 ⟨p, h p hp, hv, .inl rfl⟩, (pts_mem m _).2 ⟨p, h p hp, hv, .inr rfl⟩⟩
theorem pts_bd (l : List (Int × Int)) : ∀ z ∈ pts l, 0 ≤ z ∧ z ≤ 1099511627776 := fun z hz => by
  obtain ⟨p, _, hv, h⟩ := (pts_mem l z).1 hz
  have := vld_iff.1 hv
  rcases h with rfl | rfl <;> omega
/-- The combination of a and b by f, at an instant. -/
def gOf (f : Bool → Bool → Bool) (a b : List (Int × Int)) (x : Int) : Bool := f (memL a x) (memL b x)
/-- The elementary periods of a combination stand for its instants. -/
theorem elem_of {f : Bool → Bool → Bool} (hf : f false false = false) {a b : List (Int × Int)} {P : List Int} (hs : P.Pairwise (· < ·)) (hb : ∀ z ∈ P, 0 ≤ z ∧ z ≤ 1099511627776)
    (ha : ∀ p ∈ a, vld p.1 p.2 = true → p.1 ∈ P ∧ p.2 ∈ P) (hb' : ∀ p ∈ b, vld p.1 p.2 = true → p.1 ∈ P ∧ p.2 ∈ P) :
    ascB (-1) (elem (gOf f a b) P) = true ∧ ∀ t, memL (elem (gOf f a b) P) t = gOf f a b t := by
  cases P with
  | nil =>
    refine ⟨rfl, fun t => ?_⟩
    unfold gOf
    rw [mem_before ha t (by simp), mem_before hb' t (by simp), hf]; rfl
  | cons x r =>
    have h1 := elem_asc (gOf f a b) x r hs hb
    refine ⟨?_, fun t => ?_⟩
    · cases he : elem (gOf f a b) (x :: r) with
      | nil => rfl
      | cons p l =>
        rw [he] at h1
        have := hb x (by simp)
        simp only [ascB, Bool.and_eq_true, decide_eq_true_eq] at h1 ⊢
        exact ⟨⟨by omega, h1.1.2⟩, h1.2⟩
    · rcases ltge t x with hlt | hge
      · have hz : ∀ z ∈ x :: r, t < z := fun z hz => by
          rcases List.mem_cons.1 hz with rfl | hz
          · exact hlt
          · have := (List.pairwise_cons.1 hs).1 z hz; omega
        rw [asc_before h1 hlt]
        unfold gOf
        rw [mem_before ha t hz, mem_before hb' t hz, hf]
      · exact elem_mem (gOf f a b) x r hs hb (fun t u _ hut hz => by unfold gOf; rw [mem_const ha t u hut hz, mem_const hb' t u hut hz]) (fun t hz => by unfold gOf; rw [mem_after ha t hz, mem_after hb' t hz, hf]) t hge

/-! Joining. -/
def jstep (acc : List (Int × Int)) (p : Int × Int) : List (Int × Int) :=
  match acc.getLast? with
  | none => acc ++ [p]
  | some q => if adj q.1 q.2 p.1 p.2 then acc.dropLast ++ [(q.1, p.2)] else acc ++ [p]
def jn (l : List (Int × Int)) : List (Int × Int) := l.foldl jstep []
def rstep (acc : List (Int × Int)) (p : Int × Int) : List (Int × Int) :=
  match acc.getLast? with
  | none => acc ++ [p]
  | some q => if q.2 ≥ p.1 then acc.dropLast ++ [(q.1, max q.2 p.2)] else acc ++ [p]
/-- The number of instants of periods that do not overlap. -/
def lenS (l : List (Int × Int)) : Int := l.foldl (fun n p => n + (p.2 - p.1)) 0
theorem lenS_aux : ∀ (l : List (Int × Int)) (n : Int), l.foldl (fun n p => n + (p.2 - p.1)) n = n + lenS l
  | [], n => by simp [lenS]
  | p :: l, n => by
    unfold lenS
    rw [List.foldl_cons, List.foldl_cons, lenS_aux l (n + (p.2 - p.1)), lenS_aux l (0 + (p.2 - p.1))]; omega
theorem lenS_append (l m : List (Int × Int)) : lenS (l ++ m) = lenS l + lenS m := by
  unfold lenS; rw [List.foldl_append, lenS_aux m]; rfl
theorem lenS_one (p : Int × Int) : lenS [p] = p.2 - p.1 := by simp [lenS]
theorem jstep_ok {acc : List (Int × Int)} {p : Int × Int} (h : spB (-1) acc = true) (hp : lastTo (-1) acc ≤ p.1) (hv : vld p.1 p.2 = true) :
    spB (-1) (jstep acc p) = true ∧ (∀ t, memL (jstep acc p) t = (memL acc t || cnt p.1 p.2 t)) ∧ lenS (jstep acc p) = lenS acc + (p.2 - p.1) ∧ lastTo (-1) (jstep acc p) = p.2 ∧ rstep acc p = jstep acc p := by
  have hpv := vld_iff.1 hv
  rcases List.eq_nil_or_concat acc with rfl | ⟨l, q, rfl⟩
  · refine ⟨?_, ?_, ?_, ?_, rfl⟩
    · simp [jstep, spB, hv]; omega
    · intro t; simp [jstep, memL]
    · simp [jstep, lenS]
    · simp [jstep, lastTo]
  · rw [List.concat_eq_append] at *
    rw [lastTo_snoc] at hp
    rw [spB_snoc, Bool.and_eq_true, Bool.and_eq_true, decide_eq_true_eq] at h
    have hq := vld_iff.1 h.2
    unfold jstep rstep
    rw [show (l ++ [q]).getLast? = some q by simp]
    simp only [List.dropLast_concat]
    by_cases hqp : q.2 = p.1
    · have ha : adj q.1 q.2 p.1 p.2 = true := by unfold adj; rw [h.2, hv]; simp [hqp]
      rw [if_pos ha, if_pos (by omega), show max q.2 p.2 = p.2 by omega]
      refine ⟨?_, ?_, ?_, lastTo_snoc _ _ _, rfl⟩
      · rw [spB_snoc, h.1.1, Bool.true_and, Bool.and_eq_true, decide_eq_true_eq]
        exact ⟨h.1.2, vld_iff.2 ⟨hq.1, by omega, hpv.2.2⟩⟩
      · intro t
        rw [memL_append, memL_append, memL_cons, memL_cons, memL_nil, Bool.or_false, Bool.or_false, Bool.or_assoc]
        congr 1
        rw [Bool.eq_iff_iff, Bool.or_eq_true, cnt_iff, cnt_iff, cnt_iff]
        omega
      · rw [lenS_append, lenS_append, lenS_one, lenS_one]; simp; omega
    · have ha : adj q.1 q.2 p.1 p.2 = false := by
        rw [Bool.eq_false_iff]; intro ha
        simp [adj, h.2, hv] at ha; omega
      rw [if_neg (by rw [ha]; decide), if_neg (by omega)]
      refine ⟨?_, ?_, ?_, lastTo_snoc _ _ _, rfl⟩
      · rw [spB_snoc, spB_snoc, lastTo_snoc, h.1.1, h.2, hv]; simp; exact ⟨h.1.2, by omega⟩
      · intro t; rw [memL_append, memL_cons, memL_nil, Bool.or_false]
      · rw [lenS_append, lenS_one]
theorem jn_aux : ∀ (l acc : List (Int × Int)), spB (-1) acc = true → ascB (lastTo (-1) acc) l = true →
    spB (-1) (l.foldl jstep acc) = true ∧ (∀ t, memL (l.foldl jstep acc) t = (memL acc t || memL l t)) ∧ lenS (l.foldl jstep acc) = lenS acc + lenS l ∧ l.foldl rstep acc = l.foldl jstep acc
  | [], acc, h, _ => ⟨h, fun t => by simp [memL], by simp [lenS], rfl⟩
  | p :: l, acc, h, ha => by
    simp only [ascB, Bool.and_eq_true, decide_eq_true_eq] at ha
    obtain ⟨g1, g2, g3, g4, g5⟩ := jstep_ok h ha.1.1 ha.1.2
    obtain ⟨k1, k2, k3, k4⟩ := jn_aux l (jstep acc p) g1 (by rw [g4]; exact ha.2)
    rw [List.foldl_cons, List.foldl_cons, g5]
    refine ⟨k1, fun t => ?_, ?_, k4⟩
    · rw [k2, g2, memL_cons, Bool.or_assoc]
    · rw [k3, g3]
      have : lenS (p :: l) = (p.2 - p.1) + lenS l := by
        rw [show p :: l = [p] ++ l from rfl, lenS_append, lenS_one]
      omega
theorem jn_ok {l : List (Int × Int)} (h : ascB (-1) l = true) : spB (-1) (jn l) = true ∧ (∀ t, memL (jn l) t = memL l t) ∧ lenS (jn l) = lenS l ∧ l.foldl rstep [] = jn l := by
  obtain ⟨h1, h2, h3, h4⟩ := jn_aux l [] rfl h
  exact ⟨h1, fun t => by rw [jn, h2]; rfl, by rw [jn, h3]; simp [lenS], h4⟩
end Go.Proofs.Ytbpjgipldddcfaa
/-
  The sweep over the sorted bounds of two lists, as a function: it gives the elementary periods of the combination. Conditions: none.
-/
namespace Go.Proofs.Ytbpjgipldddcfaa
set_option maxRecDepth 100000
set_option linter.unusedVariables false
set_option linter.unusedSimpArgs false

/-- A bound: its instant, its list, its count. -/
abbrev Bd := Int × Int × Int
def bnds (j : Int) (l : List (Int × Int)) : List Bd := l.flatMap fun p => if vld p.1 p.2 then [(p.1, j, 1), (p.2, j, -1)] else []
theorem bnds_snoc (j : Int) (l : List (Int × Int)) (p : Int × Int) : bnds j (l ++ [p]) = bnds j l ++ (if vld p.1 p.2 then [(p.1, j, 1), (p.2, j, -1)] else []) := by simp [bnds]
theorem bnds_cons (j : Int) (l : List (Int × Int)) (p : Int × Int) : bnds j (p :: l) = (if vld p.1 p.2 then [(p.1, j, 1), (p.2, j, -1)] else []) ++ bnds j l := by simp [bnds]
theorem bnds_len (j : Int) : ∀ l : List (Int × Int), (bnds j l).length ≤ 2 * l.length
  | [] => by simp [bnds]
  | p :: l => by
    have := bnds_len j l
    rw [bnds_cons, List.length_append, List.length_cons]
    split <;> simp <;> omega
theorem bnds_in (j : Int) (l : List (Int × Int)) : ∀ d ∈ bnds j l, d.2.1 = j ∧ (d.2.2 = 1 ∨ d.2.2 = -1) ∧ 0 ≤ d.1 ∧ d.1 ≤ 1099511627776 := by
  intro d hd
  obtain ⟨p, _, h⟩ := List.mem_flatMap.1 hd
  split at h
  · rename_i hv
    have := vld_iff.1 hv
    simp at h
    rcases h with rfl | rfl <;> simp <;> omega
  · simp at h
theorem bnds_at (j : Int) (l : List (Int × Int)) (x : Int) : (∃ d ∈ bnds j l, d.1 = x) ↔ ∃ p ∈ l, vld p.1 p.2 = true ∧ (x = p.1 ∨ x = p.2) := by
  constructor
  · rintro ⟨d, hd, rfl⟩
    obtain ⟨p, hp, h⟩ := List.mem_flatMap.1 hd
    split at h
    · rename_i hv
      simp at h
      rcases h with rfl | rfl
      · exact ⟨p, hp, hv, .inl rfl⟩
      · exact ⟨p, hp, hv, .inr rfl⟩
    · simp at h
  · rintro ⟨p, hp, hv, rfl | rfl⟩
    · exact ⟨(p.1, j, 1), List.mem_flatMap.2 ⟨p, hp, by rw [if_pos hv]; simp⟩, rfl⟩
    · exact ⟨(p.2, j, -1), List.mem_flatMap.2 ⟨p, hp, by rw [if_pos hv]; simp⟩, rfl⟩

/-- The counts of list j, added. -/
def sm (j : Int) (D : List Bd) : Int := D.foldr (fun d n => (if d.2.1 = j then d.2.2 else 0) + n) 0
theorem sm_nil (j : Int) : sm j [] = 0 := rfl
theorem sm_cons (j : Int) (d : Bd) (D : List Bd) : sm j (d :: D) = (if d.2.1 = j then d.2.2 else 0) + sm j D := rfl
theorem sm_append (j : Int) : ∀ D E : List Bd, sm j (D ++ E) = sm j D + sm j E
  | [], E => by rw [List.nil_append, sm_nil]; omega
  | d :: D, E => by rw [List.cons_append, sm_cons, sm_cons, sm_append j D E]; omega
theorem sm_one (j : Int) (d : Bd) : sm j [d] = if d.2.1 = j then d.2.2 else 0 := by rw [sm_cons, sm_nil]; omega
theorem sm_perm (j : Int) {D E : List Bd} (h : D.Perm E) : sm j D = sm j E := by
  induction h with
  | nil => rfl
  | cons d _ ih => rw [sm_cons, sm_cons, ih]
  | swap d e D => rw [sm_cons, sm_cons, sm_cons, sm_cons]; omega
  | trans _ _ h1 h2 => exact h1.trans h2
theorem sm_bd (j : Int) (D : List Bd) (h : ∀ d ∈ D, d.2.2 = 1 ∨ d.2.2 = -1) : -(D.length : Int) ≤ sm j D ∧ sm j D ≤ D.length := by
  induction D with
  | nil => simp [sm]
  | cons d D ih =>
    have h1 := ih fun e he => h e (List.mem_cons_of_mem _ he)
    have h2 := h d (by simp)
    rw [sm_cons, List.length_cons]
    split <;> omega
def upTo (x : Int) (D : List Bd) : List Bd := D.filter fun d => decide (d.1 ≤ x)
theorem upTo_nil (x : Int) : upTo x [] = [] := rfl
theorem sm_other {i j : Int} (hij : i ≠ j) (x : Int) (l : List (Int × Int)) : sm i (upTo x (bnds j l)) = 0 := by
  have : ∀ D : List Bd, (∀ d ∈ D, d.2.1 = j) → sm i (upTo x D) = 0 := by
    intro D
    induction D with
    | nil => intro _; rfl
    | cons d D ih =>
      intro h
      have h1 := ih fun e he => h e (List.mem_cons_of_mem _ he)
      have h2 := h d (by simp)
      unfold upTo at *
      rw [List.filter_cons]
      split
      · rw [sm_cons, if_neg (by omega), h1]; rfl
      · exact h1
  exact this _ fun d hd => (bnds_in j l d hd).1
theorem sm_own (j x : Int) : ∀ l : List (Int × Int), 0 ≤ sm j (upTo x (bnds j l)) ∧ (memL l x = decide (0 < sm j (upTo x (bnds j l))))
  | [] => by simp [bnds, upTo, sm, memL]
  | p :: l => by
    obtain ⟨h1, h2⟩ := sm_own j x l
    rw [bnds_cons, memL_cons, h2]
    unfold upTo at *
    rw [List.filter_append, sm_append]
    cases hv : vld p.1 p.2 with
    | false => simp [cnt, hv, sm_nil, h1]
    | true =>
      have hp := vld_iff.1 hv
      have hc : cnt p.1 p.2 x = (decide (p.1 ≤ x) && decide (x < p.2)) := by unfold cnt; rw [hv]; rfl
      rw [hc]
      simp only [if_true, List.filter_cons, List.filter_nil]
      by_cases ha : p.1 ≤ x <;> by_cases hb : p.2 ≤ x
      · have : ¬ x < p.2 := by omega
        simp [ha, hb, sm_cons, sm_nil, this]; omega
      · have : x < p.2 := by omega
        simp [ha, hb, sm_cons, sm_nil, this]; omega
      · omega
      · simp [ha, hb, sm_nil]; omega
def atOf (D : List Bd) (k : Nat) : Int := (D.getD k (0, 0, 0)).1
/-- What the sweep has appended after k bounds. -/
def swS (f : Bool → Bool → Bool) (D : List Bd) : Nat → List (Int × Int)
  | 0 => []
  | k + 1 => swS f D k ++ (if 0 < k ∧ atOf D (k - 1) < atOf D k ∧ f (decide (0 < sm 0 (D.take k))) (decide (0 < sm 1 (D.take k))) = true then [(atOf D (k - 1), atOf D k)] else [])
theorem swS_len (f : Bool → Bool → Bool) (D : List Bd) : ∀ k, (swS f D k).length ≤ k
  | 0 => by simp [swS]
  | k + 1 => by
    have := swS_len f D k
    rw [swS, List.length_append]
    split <;> simp <;> omega

theorem insI_last {x : Int} : ∀ {L : List Int}, (∀ y ∈ L, y < x) → insI x L = L ++ [x]
  | [], _ => rfl
  | y :: L, h => by
    have := h y (by simp)
    rw [insI, if_pos this, insI_last fun z hz => h z (List.mem_cons_of_mem _ hz)]; rfl
theorem insI_same {x : Int} : ∀ {L : List Int}, L.Pairwise (· < ·) → x ∈ L → insI x L = L
  | [], _, h => by simp at h
  | y :: L, hs, h => by
    have h0 := List.pairwise_cons.1 hs
    unfold insI
    rcases List.mem_cons.1 h with rfl | h
    · rw [if_neg (by omega), if_neg (by omega)]
    · have := h0.1 x h
      rw [if_pos this, insI_same h0.2 h]
theorem elem_snoc (g : Int → Bool) (x y : Int) : ∀ L : List Int, elem g (L ++ [x, y]) = elem g (L ++ [x]) ++ (if g x then [(x, y)] else [])
  | [] => by simp [elem]
  | [z] => by simp [elem]
  | z :: w :: L => by
    have := elem_snoc g x y (w :: L)
    simp only [List.cons_append] at this ⊢
    rw [elem_two, elem_two, this, List.append_assoc]
def atsI (D : List Bd) : List Int := D.foldl (fun acc d => insI d.1 acc) []
theorem atsI_snoc (D : List Bd) (d : Bd) : atsI (D ++ [d]) = insI d.1 (atsI D) := by unfold atsI; rw [List.foldl_append]; rfl
theorem atsI_aux : ∀ (D : List Bd) (acc : List Int), acc.Pairwise (· < ·) → (D.foldl (fun acc d => insI d.1 acc) acc).Pairwise (· < ·) ∧ ∀ x, x ∈ D.foldl (fun acc d => insI d.1 acc) acc ↔ x ∈ acc ∨ ∃ d ∈ D, d.1 = x
  | [], acc, h => ⟨h, fun x => by simp⟩
  | d :: D, acc, h => by
    obtain ⟨h1, h2⟩ := atsI_aux D _ (insI_sorted (n := d.1) h)
    refine ⟨h1, fun x => ?_⟩
    rw [List.foldl_cons, h2, insI_mem]
    constructor
    · rintro ((rfl | h) | ⟨e, he, rfl⟩)
      · exact .inr ⟨d, by simp, rfl⟩
      · exact .inl h
      · exact .inr ⟨e, by simp [he], rfl⟩
    · rintro (h | ⟨e, he, rfl⟩)
      · exact .inl (.inr h)
      · rcases List.mem_cons.1 he with rfl | he
        · exact .inl (.inl rfl)
        · exact .inr ⟨e, he, rfl⟩
theorem atsI_sorted (D : List Bd) : (atsI D).Pairwise (· < ·) := (atsI_aux D [] .nil).1
theorem atsI_mem (D : List Bd) (x : Int) : x ∈ atsI D ↔ ∃ d ∈ D, d.1 = x := by
  have := (atsI_aux D [] .nil).2 x
  simpa [atsI] using this
/-- Bounds up to x among ascending ones that change at k: the first k. -/
theorem upTo_take {D : List Bd} (hs : D.Pairwise fun d e => d.1 ≤ e.1) {k : Nat} (h0 : 0 < k) (hk : k < D.length) (hlt : atOf D (k - 1) < atOf D k) : upTo (atOf D (k - 1)) D = D.take k := by
  have e1 : atOf D (k - 1) = (D[k - 1]'(by omega)).1 := by unfold atOf; rw [List.getD_eq_getElem?_getD, List.getElem?_eq_getElem (by omega)]; rfl
  have e2 : atOf D k = (D[k]).1 := by unfold atOf; rw [List.getD_eq_getElem?_getD, List.getElem?_eq_getElem hk]; rfl
  have hp := List.pairwise_iff_getElem.1 hs
  unfold upTo
  rw [show D.filter (fun d => decide (d.1 ≤ atOf D (k - 1))) = (D.take k ++ D.drop k).filter (fun d => decide (d.1 ≤ atOf D (k - 1))) by rw [List.take_append_drop], List.filter_append]
  have g1 : (D.take k).filter (fun d => decide (d.1 ≤ atOf D (k - 1))) = D.take k := by
    rw [List.filter_eq_self]
    intro d hd
    obtain ⟨i, hi, rfl⟩ := List.mem_iff_getElem.1 hd
    rw [List.length_take] at hi
    rw [List.getElem_take, decide_eq_true_eq, e1]
    rcases Nat.lt_or_ge i (k - 1) with h | h
    · exact hp i (k - 1) (by omega) (by omega) h
    · have : i = k - 1 := by omega
      subst this; exact Int.le_refl _
  have g2 : (D.drop k).filter (fun d => decide (d.1 ≤ atOf D (k - 1))) = [] := by
    rw [List.filter_eq_nil_iff]
    intro d hd
    obtain ⟨i, hi, rfl⟩ := List.mem_iff_getElem.1 hd
    rw [List.length_drop] at hi
    rw [List.getElem_drop, decide_eq_true_eq]
    have : (D[k]).1 ≤ (D[k + i]'(by omega)).1 := by
      rcases Nat.eq_zero_or_pos i with rfl | h
      · exact Int.le_refl _
      · exact hp k (k + i) (by omega) (by omega) (by omega)
    rw [← e2] at this
    omega
  rw [g1, g2, List.append_nil]
theorem last_ats {D : List Bd} (hs : D.Pairwise fun d e => d.1 ≤ e.1) : ∀ k, 0 < k → k ≤ D.length → ∃ L, atsI (D.take k) = L ++ [atOf D (k - 1)] ∧ ∀ y ∈ L, y < atOf D (k - 1)
  | 0, h, _ => absurd h (by omega)
  | k + 1, _, hk => by
    have hk' : k < D.length := hk
    have e2 : atOf D k = (D[k]).1 := by unfold atOf; rw [List.getD_eq_getElem?_getD, List.getElem?_eq_getElem hk']; rfl
    rw [List.take_succ_eq_append_getElem hk', atsI_snoc, Nat.add_sub_cancel, e2]
    rcases Nat.eq_zero_or_pos k with rfl | h0
    · exact ⟨[], rfl, by simp⟩
    · obtain ⟨L, hL, hlt⟩ := last_ats hs k h0 (by omega)
      have e1 : atOf D (k - 1) = (D[k - 1]'(by omega)).1 := by unfold atOf; rw [List.getD_eq_getElem?_getD, List.getElem?_eq_getElem (by omega)]; rfl
      have hle : (D[k - 1]'(by omega)).1 ≤ (D[k]).1 := List.pairwise_iff_getElem.1 hs (k - 1) k (by omega) hk' (by omega)
      have hsL := atsI_sorted (D.take k)
      rw [hL] at hsL ⊢
      by_cases he : atOf D (k - 1) = (D[k]).1
      · rw [← he, insI_same hsL (by simp)]
        exact ⟨L, rfl, hlt⟩
      · rw [insI_last (fun y hy => by
          rcases List.mem_append.1 hy with hy | hy
          · have := hlt y hy; omega
          · simp at hy; omega)]
        refine ⟨L ++ [atOf D (k - 1)], rfl, fun y hy => ?_⟩
        rcases List.mem_append.1 hy with hy | hy
        · have := hlt y hy; omega
        · simp at hy; omega
theorem swS_elem (f : Bool → Bool → Bool) (g : Int → Bool) {D : List Bd} (hs : D.Pairwise fun d e => d.1 ≤ e.1)
    (hg : ∀ x, f (decide (0 < sm 0 (upTo x D))) (decide (0 < sm 1 (upTo x D))) = g x) : ∀ k, k ≤ D.length → swS f D k = elem g (atsI (D.take k))
  | 0, _ => rfl
  | k + 1, hk => by
    have hk' : k < D.length := hk
    have e2 : atOf D k = (D[k]).1 := by unfold atOf; rw [List.getD_eq_getElem?_getD, List.getElem?_eq_getElem hk']; rfl
    rw [swS, swS_elem f g hs hg k (by omega), List.take_succ_eq_append_getElem hk', atsI_snoc, ← e2]
    rcases Nat.eq_zero_or_pos k with rfl | h0
    · simp [atsI, insI, elem]
    · obtain ⟨L, hL, hlt⟩ := last_ats hs k h0 (by omega)
      have e1 : atOf D (k - 1) = (D[k - 1]'(by omega)).1 := by unfold atOf; rw [List.getD_eq_getElem?_getD, List.getElem?_eq_getElem (by omega)]; rfl
      have hle : atOf D (k - 1) ≤ atOf D k := by rw [e1, e2]; exact List.pairwise_iff_getElem.1 hs (k - 1) k (by omega) hk' (by omega)
      have hsL := atsI_sorted (D.take k)
      rw [hL] at hsL ⊢
      by_cases he : atOf D (k - 1) = atOf D k
      · rw [if_neg (by omega), List.append_nil, ← he, insI_same hsL (by simp)]
      · have hlt2 : atOf D (k - 1) < atOf D k := by omega
        rw [insI_last (fun y hy => by
          rcases List.mem_append.1 hy with hy | hy
          · have := hlt y hy; omega
          · simp at hy; omega), List.append_assoc, List.singleton_append, elem_snoc]
        congr 1
        have h3 := hg (atOf D (k - 1))
        rw [upTo_take hs h0 hk' hlt2] at h3
        rw [h3]
        cases hgx : g (atOf D (k - 1)) <;> simp [h0, hlt2]
/-- The sweep over any sorted order of the bounds of a and b. -/
theorem sweep_is (f : Bool → Bool → Bool) (a b : List (Int × Int)) {D : List Bd} (hs : D.Pairwise fun d e => d.1 ≤ e.1) (hp : D.Perm (bnds 0 a ++ bnds 1 b)) :
    swS f D D.length = elem (gOf f a b) (pts (a ++ b)) := by
  have hup : ∀ x j, sm j (upTo x D) = sm j (upTo x (bnds 0 a)) + sm j (upTo x (bnds 1 b)) := fun x j => by
    unfold upTo
    rw [sm_perm j (hp.filter _), List.filter_append, sm_append]
  rw [swS_elem f (gOf f a b) hs (fun x => ?_) D.length (Nat.le_refl _), List.take_length]
  · congr 1
    refine sorted_ext (atsI_sorted _) (pts_sorted _) fun x => ?_
    rw [atsI_mem, pts_mem]
    have h1 : (∃ d ∈ D, d.1 = x) ↔ (∃ d ∈ bnds 0 a, d.1 = x) ∨ ∃ d ∈ bnds 1 b, d.1 = x := by
      constructor
      · rintro ⟨d, hd, h⟩
        rcases List.mem_append.1 (hp.mem_iff.1 hd) with hd | hd
        · exact .inl ⟨d, hd, h⟩
        · exact .inr ⟨d, hd, h⟩
      · rintro (⟨d, hd, h⟩ | ⟨d, hd, h⟩)
        · exact ⟨d, hp.mem_iff.2 (List.mem_append_left _ hd), h⟩
        · exact ⟨d, hp.mem_iff.2 (List.mem_append_right _ hd), h⟩
    rw [h1, bnds_at, bnds_at]
    constructor
    · rintro (⟨p, hp, h⟩ | ⟨p, hp, h⟩)
      · exact ⟨p, List.mem_append_left _ hp, h⟩
      · exact ⟨p, List.mem_append_right _ hp, h⟩
    · rintro ⟨p, hp, h⟩
      rcases List.mem_append.1 hp with hp | hp
      · exact .inl ⟨p, hp, h⟩
      · exact .inr ⟨p, hp, h⟩
  · unfold gOf
    rw [hup, hup, sm_other (by decide : (0 : Int) ≠ 1), sm_other (by decide : (1 : Int) ≠ 0), Int.add_zero, Int.zero_add, (sm_own 0 x a).2, (sm_own 1 x b).2]

/-- The span of a combination. -/
def comb (f : Bool → Bool → Bool) (a b : List (Int × Int)) : List (Int × Int) := jn (elem (gOf f a b) (pts (a ++ b)))
theorem sub_left {a b : List (Int × Int)} : ∀ p ∈ a, vld p.1 p.2 = true → p.1 ∈ pts (a ++ b) ∧ p.2 ∈ pts (a ++ b) := pts_sub fun _ hp => List.mem_append_left _ hp
theorem sub_right {a b : List (Int × Int)} : ∀ p ∈ b, vld p.1 p.2 = true → p.1 ∈ pts (a ++ b) ∧ p.2 ∈ pts (a ++ b) := pts_sub fun _ hp => List.mem_append_right _ hp
theorem elem_comb {f : Bool → Bool → Bool} (hf : f false false = false) (a b : List (Int × Int)) : ascB (-1) (elem (gOf f a b) (pts (a ++ b))) = true ∧ ∀ t, memL (elem (gOf f a b) (pts (a ++ b))) t = gOf f a b t :=
  elem_of hf (pts_sorted _) (pts_bd _) sub_left sub_right
theorem comb_sp {f : Bool → Bool → Bool} (hf : f false false = false) (a b : List (Int × Int)) : spB (-1) (comb f a b) = true := (jn_ok (elem_comb hf a b).1).1
theorem comb_mem {f : Bool → Bool → Bool} (hf : f false false = false) (a b : List (Int × Int)) (t : Int) : memL (comb f a b) t = f (memL a t) (memL b t) := by
  unfold comb
  rw [(jn_ok (elem_comb hf a b).1).2.1, (elem_comb hf a b).2]; rfl
/-- Two combinations with the same instants are the same span. -/
theorem comb_ext {f g : Bool → Bool → Bool} (hf : f false false = false) (hg : g false false = false) {a b c d : List (Int × Int)} (h : ∀ t, f (memL a t) (memL b t) = g (memL c t) (memL d t)) : comb f a b = comb g c d :=
  sp_ext (comb_sp hf a b) (comb_sp hg c d) fun t => by rw [comb_mem hf, comb_mem hg, h]
theorem comb_self {f : Bool → Bool → Bool} (hf : f false false = false) {a b l : List (Int × Int)} (hl : spB (-1) l = true) (h : ∀ t, f (memL a t) (memL b t) = memL l t) : comb f a b = l :=
  sp_ext (comb_sp hf a b) hl fun t => by rw [comb_mem hf, h]

theorem elem_congr {g g' : Int → Bool} {F : Int} : ∀ {P : List Int}, P.Pairwise (· < ·) → (∀ z ∈ P, z ≤ F) → (∀ x ∈ P, x < F → g x = g' x) → elem g P = elem g' P
  | [], _, _, _ => rfl
  | [_], _, _, _ => rfl
  | x :: y :: r, hs, hb, h => by
    have h0 := List.pairwise_cons.1 hs
    have := h0.1 y (by simp)
    have := hb y (by simp)
    rw [elem_two, elem_two, h x (by simp) (by omega), elem_congr h0.2 (fun z hz => hb z (List.mem_cons_of_mem _ hz)) fun z hz => h z (List.mem_cons_of_mem _ hz)]

/-! The reference's combinations. -/
def wantF (kind : Int) (a b : Bool) : Bool := if kind = 1 then a && b else if kind = 2 then a || b else if kind = 3 then a && !b else !a && !b
def all3 (a b : List (Int × Int)) : List (Int × Int) := (0, 1099511627776) :: (a ++ b)
def rcomb (kind : Int) (a b : List (Int × Int)) : List (Int × Int) := (elem (gOf (wantF kind) a b) (pts (all3 a b))).foldl rstep []
theorem rcomb_is {kind : Int} (h4 : wantF kind false false = false) (a b : List (Int × Int)) : rcomb kind a b = comb (wantF kind) a b := by
  have h := elem_of h4 (a := a) (b := b) (P := pts (all3 a b)) (pts_sorted _) (pts_bd _) (pts_sub fun _ hp => by unfold all3; simp [hp]) (pts_sub fun _ hp => by unfold all3; simp [hp])
  have hj := jn_ok h.1
  unfold rcomb
  rw [hj.2.2.2]
  exact sp_ext hj.1 (comb_sp h4 a b) fun t => by rw [hj.2.1, h.2, comb_mem h4]; rfl
theorem whole_mem (t : Int) : memL [(0, 1099511627776)] t = (decide (0 ≤ t) && decide (t < 1099511627776)) := by
  rw [memL_cons, memL_nil, Bool.or_false, cnt, show vld 0 1099511627776 = true by decide, Bool.true_and]
theorem rcomb_nor (l : List (Int × Int)) : rcomb 4 l [] = comb (fun x y => x && !y) [(0, 1099511627776)] l := by
  have hP : all3 l [] = [(0, 1099511627776)] ++ l := by simp [all3]
  unfold rcomb
  rw [hP]
  have hc : elem (gOf (wantF 4) l []) (pts ([(0, 1099511627776)] ++ l)) = elem (gOf (fun x y => x && !y) [(0, 1099511627776)] l) (pts ([(0, 1099511627776)] ++ l)) := by
    refine elem_congr (F := 1099511627776) (pts_sorted _) (fun z hz => (pts_bd _ z hz).2) fun x hx hlt => ?_
    have h0 := (pts_bd _ x hx).1
    unfold gOf
    rw [whole_mem, decide_eq_true h0, decide_eq_true hlt, memL_nil]
    simp [wantF]
  rw [hc]
  exact (jn_ok (elem_comb rfl _ _).1).2.2.2

/-! Lengths. -/
theorem lenS_cons (p : Int × Int) (l : List (Int × Int)) : lenS (p :: l) = (p.2 - p.1) + lenS l := by
  rw [show p :: l = [p] ++ l from rfl, lenS_append, lenS_one]
theorem lenS_nil : lenS [] = 0 := rfl
theorem lenS_bd : ∀ {z : Int} {l : List (Int × Int)}, ascB z l = true → z ≤ 1099511627776 → 0 ≤ lenS l ∧ z + lenS l ≤ 1099511627776 ∧ (lenS l = 0 ↔ l = [])
  | z, [], _, hz => by rw [lenS_nil]; simp; omega
  | z, p :: l, h, hz => by
    simp only [ascB, Bool.and_eq_true, decide_eq_true_eq] at h
    have hp := vld_iff.1 h.1.2
    have := lenS_bd h.2 hp.2.2
    rw [lenS_cons]
    refine ⟨by omega, by omega, ?_⟩
    simp; omega
theorem lenS_elem (g h : Int → Bool) : ∀ P : List Int, lenS (elem (fun x => g x || h x) P) + lenS (elem (fun x => g x && h x) P) = lenS (elem g P) + lenS (elem h P)
  | [] => rfl
  | [_] => rfl
  | x :: y :: r => by
    have := lenS_elem g h (y :: r)
    rw [elem_two, elem_two, elem_two, elem_two, lenS_append, lenS_append, lenS_append, lenS_append]
    cases g x <;> cases h x <;> simp [lenS_cons, lenS_nil] <;> omega
theorem lenS_diff (g h : Int → Bool) : ∀ P : List Int, lenS (elem (fun x => g x && !h x) P) = lenS (elem g P) - lenS (elem (fun x => g x && h x) P)
  | [] => rfl
  | [_] => rfl
  | x :: y :: r => by
    have := lenS_diff g h (y :: r)
    rw [elem_two, elem_two, elem_two, lenS_append, lenS_append, lenS_append]
    cases g x <;> cases h x <;> simp [lenS_cons, lenS_nil] <;> omega
def fA (x _ : Bool) : Bool := x
def fOr (x y : Bool) : Bool := x || y
def fAnd (x y : Bool) : Bool := x && y
def fSub (x y : Bool) : Bool := x && !y
def ofL (l : List (Int × Int)) : List (Int × Int) := comb fA l []
def lenL (l : List (Int × Int)) : Int := lenS (ofL l)
theorem lenS_comb {f : Bool → Bool → Bool} (hf : f false false = false) (a b : List (Int × Int)) : lenS (comb f a b) = lenS (elem (gOf f a b) (pts (a ++ b))) := (jn_ok (elem_comb hf a b).1).2.2.1
theorem ofL_left (a b : List (Int × Int)) : ofL a = comb fA a b := comb_ext rfl rfl fun _ => rfl
theorem ofL_right (a b : List (Int × Int)) : ofL b = comb (fun _ y => y) a b := comb_ext rfl rfl fun _ => rfl
theorem ofL_comb {f : Bool → Bool → Bool} (hf : f false false = false) (a b : List (Int × Int)) : ofL (comb f a b) = comb f a b := comb_self rfl (comb_sp hf a b) fun _ => rfl
theorem lenL_add (a b : List (Int × Int)) : lenL (comb fOr a b) + lenL (comb fAnd a b) = lenL a + lenL b := by
  unfold lenL
  rw [ofL_comb rfl, ofL_comb rfl, ofL_left a b, ofL_right a b, lenS_comb rfl, lenS_comb rfl, lenS_comb rfl, lenS_comb rfl]
  exact lenS_elem (memL a) (memL b) _
theorem lenL_sub (a b : List (Int × Int)) : lenL (comb fSub a b) = lenL a - lenL (comb fAnd a b) := by
  unfold lenL
  rw [ofL_comb rfl, ofL_comb rfl, ofL_left a b, lenS_comb rfl, lenS_comb rfl, lenS_comb rfl]
  exact lenS_diff (memL a) (memL b) _
theorem lenL_bd (l : List (Int × Int)) : 0 ≤ lenL l ∧ lenL l ≤ 1099511627776 ∧ (lenL l = 0 ↔ ofL l = []) := by
  have hs : spB (-1) (ofL l) = true := comb_sp rfl l []
  have h0 : ascB 0 (ofL l) = true := by
    cases he : ofL l with
    | nil => rfl
    | cons p r =>
      rw [he] at hs
      simp only [spB, Bool.and_eq_true, decide_eq_true_eq] at hs
      simp only [ascB, Bool.and_eq_true, decide_eq_true_eq]
      exact ⟨⟨by omega, hs.1.2⟩, spB_asc _ _ hs.2⟩
  have := lenS_bd h0 (by omega)
  exact ⟨this.1, by have := this.2.1; unfold lenL; omega, this.2.2⟩
/-- Lengths of the results. -/
theorem elem_len (g : Int → Bool) : ∀ P : List Int, (elem g P).length ≤ P.length
  | [] => by simp [elem]
  | [_] => by simp [elem]
  | x :: y :: r => by
    have := elem_len g (y :: r)
    rw [elem_two, List.length_append, List.length_cons, List.length_cons]
    rw [List.length_cons] at this
    split <;> simp <;> omega
theorem insI_len (n : Int) : ∀ l : List Int, (insI n l).length ≤ l.length + 1
  | [] => by simp [insI]
  | x :: l => by
    have := insI_len n l
    unfold insI
    split
    · simp; omega
    · split <;> simp
theorem pts_len_aux : ∀ (l : List (Int × Int)) (acc : List Int), (l.foldl ptsF acc).length ≤ acc.length + 2 * l.length
  | [], acc => by simp
  | p :: l, acc => by
    have h1 := pts_len_aux l (ptsF acc p)
    have h2 : (ptsF acc p).length ≤ acc.length + 2 := by
      unfold ptsF
      split
      · have := insI_len p.2 (insI p.1 acc); have := insI_len p.1 acc; omega
      · omega
    rw [List.foldl_cons, List.length_cons]; omega
theorem pts_len (l : List (Int × Int)) : (pts l).length ≤ 2 * l.length := by have := pts_len_aux l []; simpa [pts] using this
theorem jstep_len (acc : List (Int × Int)) (p : Int × Int) : (jstep acc p).length ≤ acc.length + 1 := by
  unfold jstep
  split
  · simp
  · split <;> simp
theorem jn_len_aux : ∀ (l acc : List (Int × Int)), (l.foldl jstep acc).length ≤ acc.length + l.length
  | [], acc => by simp
  | p :: l, acc => by
    have h1 := jn_len_aux l (jstep acc p); have h2 := jstep_len acc p
    rw [List.foldl_cons, List.length_cons]; omega
theorem comb_len (f : Bool → Bool → Bool) (a b : List (Int × Int)) : (comb f a b).length ≤ 2 * (a.length + b.length) := by
  have h1 := jn_len_aux (elem (gOf f a b) (pts (a ++ b))) []
  have h2 := elem_len (gOf f a b) (pts (a ++ b))
  have h3 := pts_len (a ++ b)
  rw [List.length_append] at h3
  unfold comb jn
  simp at h1; omega
end Go.Proofs.Ytbpjgipldddcfaa
/-
  Mathematics of step functions: the value at an instant, validity, normal forms over ascending points; a valid list is fixed by its values. Conditions: none.
-/
namespace Go.Proofs.Ytbpjgipldddcfaa
set_option maxRecDepth 100000
set_option linter.unusedVariables false
set_option linter.unusedSimpArgs false

/-- The value at t of the steps l, behind the value a. -/
def valF (a : Int) (l : List (Int × Int)) (t : Int) : Int := l.foldl (fun n s => if s.1 ≤ t then s.2 else n) a
theorem valF_nil (a t : Int) : valF a [] t = a := rfl
theorem valF_cons (a : Int) (p : Int × Int) (l : List (Int × Int)) (t : Int) : valF a (p :: l) t = valF (if p.1 ≤ t then p.2 else a) l t := rfl
theorem valF_snoc (a : Int) (l : List (Int × Int)) (p : Int × Int) (t : Int) : valF a (l ++ [p]) t = if p.1 ≤ t then p.2 else valF a l t := by
  unfold valF; rw [List.foldl_append]; rfl
/-- Steps behind the step (x, n). -/
def stT (x n : Int) : List (Int × Int) → Bool
  | [] => true
  | (y, m) :: l => decide (x < y) && decide (y < 1099511627776) && decide (m ≠ n) && stT y m l
def stV : List (Int × Int) → Bool
  | [] => false
  | (x, n) :: l => decide (x = 0) && stT x n l
theorem stT_cons {x n y m : Int} {l : List (Int × Int)} : stT x n ((y, m) :: l) = true ↔ x < y ∧ y < 1099511627776 ∧ m ≠ n ∧ stT y m l = true := by
  simp [stT, and_assoc]
theorem valF_low : ∀ (l : List (Int × Int)) (x n a t : Int), stT x n l = true → t ≤ x → valF a l t = a
  | [], _, _, _, _, _, _ => rfl
  | (y, m) :: l, x, n, a, t, h, ht => by
    obtain ⟨h1, _, _, h4⟩ := stT_cons.1 h
    rw [valF_cons, if_neg (by show ¬ y ≤ t; omega)]
    exact valF_low l y m a t h4 (by omega)
theorem valF_at (x n a : Int) (l : List (Int × Int)) (h : stT x n l = true) : valF a ((x, n) :: l) x = n := by
  rw [valF_cons, if_pos (Int.le_refl x)]
  exact valF_low l x n n x h (Int.le_refl x)
/-- Two lists of steps with the same values are equal. -/
theorem stT_ext : ∀ (l m : List (Int × Int)) (x n : Int), stT x n l = true → stT x n m = true → (∀ t, x ≤ t → t < 1099511627776 → valF n l t = valF n m t) → l = m
  | [], [], _, _, _, _, _ => rfl
  | [], (z, j) :: m, x, n, _, h2, hv => by
    obtain ⟨a1, a2, a3, a4⟩ := stT_cons.1 h2
    have := hv z (by omega) a2
    rw [valF_nil, valF_at z j n m a4] at this
    exact absurd this.symm a3
  | (y, k) :: l, [], x, n, h1, _, hv => by
    obtain ⟨a1, a2, a3, a4⟩ := stT_cons.1 h1
    have := hv y (by omega) a2
    rw [valF_nil, valF_at y k n l a4] at this
    exact absurd this a3
  | (y, k) :: l, (z, j) :: m, x, n, h1, h2, hv => by
    obtain ⟨a1, a2, a3, a4⟩ := stT_cons.1 h1
    obtain ⟨b1, b2, b3, b4⟩ := stT_cons.1 h2
    rcases Int.lt_trichotomy y z with h | h | h
    · have h0 := hv y (by omega) a2
      rw [valF_at y k n l a4, valF_cons, if_neg (by show ¬ z ≤ y; omega), valF_low m z j n y b4 (by omega)] at h0
      exact absurd h0 a3
    · subst h
      have h0 := hv y (by omega) a2
      rw [valF_at y k n l a4, valF_at y j n m b4] at h0
      subst h0
      rw [stT_ext l m y k a4 b4 (fun t h3 h4 => by
        have := hv t (by omega) h4
        rw [valF_cons, valF_cons, if_pos h3] at this
        exact this)]
    · have h0 := hv z (by omega) b2
      rw [valF_at z j n m b4, valF_cons, if_neg (by show ¬ y ≤ z; omega), valF_low l y k n z a4 (by omega)] at h0
      exact absurd h0.symm b3
theorem stV_ext {l m : List (Int × Int)} (h1 : stV l = true) (h2 : stV m = true) (hv : ∀ t, 0 ≤ t → t < 1099511627776 → valF 0 l t = valF 0 m t) : l = m := by
  match l, m, h1, h2 with
  | (x, n) :: l, (y, k) :: m, h1, h2 =>
    simp only [stV, Bool.and_eq_true, decide_eq_true_eq] at h1 h2
    obtain ⟨rfl, h1⟩ := h1
    obtain ⟨rfl, h2⟩ := h2
    have h0 := hv 0 (Int.le_refl 0) (by decide)
    rw [valF_at 0 n 0 l h1, valF_at 0 k 0 m h2] at h0
    subst h0
    rw [stT_ext l m 0 n h1 h2 (fun t h3 h4 => by
      have := hv t h3 h4
      rw [valF_cons, valF_cons, if_pos h3] at this
      exact this)]

/-- Ascending points behind x, before forever. -/
def ascP (x : Int) : List Int → Bool
  | [] => true
  | y :: P => decide (x < y) && decide (y < 1099511627776) && ascP y P
theorem ascP_cons {x y : Int} {P : List Int} : ascP x (y :: P) = true ↔ x < y ∧ y < 1099511627776 ∧ ascP y P = true := by simp [ascP, and_assoc]
/-- The steps of f over the points, behind the value n. -/
def nrm (f : Int → Int) (n : Int) : List Int → List (Int × Int)
  | [] => []
  | t :: P => if f t = n then nrm f n P else (t, f t) :: nrm f (f t) P
def nrmV (f : Int → Int) : List Int → List (Int × Int)
  | [] => []
  | t :: P => (t, f t) :: nrm f (f t) P
def lstV (n : Int) (L : List (Int × Int)) : Int := match L.getLast? with
  | some q => q.2
  | none => n
theorem lstV_cons (n : Int) (p : Int × Int) (L : List (Int × Int)) : lstV n (p :: L) = lstV p.2 L := by
  unfold lstV
  cases L with
  | nil => rfl
  | cons q L => rw [List.getLast?_cons_cons]; cases h : (q :: L).getLast? with
    | none => simp at h
    | some r => rfl
theorem lstV_snoc (n : Int) (L : List (Int × Int)) (p : Int × Int) : lstV n (L ++ [p]) = p.2 := by unfold lstV; simp
theorem nrm_snoc (f : Int → Int) : ∀ (P : List Int) (n t : Int), nrm f n (P ++ [t]) = nrm f n P ++ if f t = lstV n (nrm f n P) then [] else [(t, f t)]
  | [], n, t => by
    show (if f t = n then [] else [(t, f t)]) = [] ++ if f t = n then [] else [(t, f t)]
    rw [List.nil_append]
  | p :: P, n, t => by
    rw [List.cons_append, nrm, nrm]
    by_cases h : f p = n
    · rw [if_pos h, if_pos h]; exact nrm_snoc f P n t
    · rw [if_neg h, if_neg h, nrm_snoc f P (f p) t, lstV_cons, List.cons_append]
theorem nrmV_snoc (f : Int → Int) {P : List Int} (hP : P ≠ []) (t : Int) : nrmV f (P ++ [t]) = nrmV f P ++ if f t = lstV 0 (nrmV f P) then [] else [(t, f t)] := by
  match P, hP with
  | p :: P, _ => rw [List.cons_append, nrmV, nrmV, nrm_snoc, lstV_cons, List.cons_append]
theorem nrm_len (f : Int → Int) : ∀ (P : List Int) (n : Int), (nrm f n P).length ≤ P.length
  | [], _ => Nat.le_refl _
  | p :: P, n => by
    rw [nrm]
    have h1 := nrm_len f P n
    have h2 := nrm_len f P (f p)
    split <;> simp only [List.length_cons] <;> omega
theorem nrmV_len (f : Int → Int) (P : List Int) : (nrmV f P).length ≤ P.length := by
  cases P with
  | nil => exact Nat.le_refl _
  | cons p P => have := nrm_len f P (f p); simp only [nrmV, List.length_cons]; omega
theorem nrm_mono {f : Int → Int} : ∀ (P : List Int) (x y n : Int), y ≤ x → stT x n (nrm f n P) = true → stT y n (nrm f n P) = true := by
  intro P x y n hxy h
  cases hL : nrm f n P with
  | nil => rfl
  | cons q L =>
    obtain ⟨z, k⟩ := q
    rw [hL] at h
    obtain ⟨h1, h2, h3, h4⟩ := stT_cons.1 h
    exact stT_cons.2 ⟨by omega, h2, h3, h4⟩
theorem nrm_ok (f : Int → Int) : ∀ (P : List Int) (x n : Int), ascP x P = true → stT x n (nrm f n P) = true
  | [], _, _, _ => rfl
  | p :: P, x, n, h => by
    obtain ⟨h1, h2, h3⟩ := ascP_cons.1 h
    rw [nrm]
    by_cases hf : f p = n
    · rw [if_pos hf]; exact nrm_mono P p x n (by omega) (nrm_ok f P p n h3)
    · rw [if_neg hf]; exact stT_cons.2 ⟨h1, h2, hf, nrm_ok f P p (f p) h3⟩
theorem nrmV_ok (f : Int → Int) (P : List Int) (h : ascP 0 P = true) : stV (nrmV f (0 :: P)) = true := by
  simp only [nrmV, stV, decide_true, Bool.true_and]
  exact nrm_ok f P 0 (f 0) h
/-- The value of f at the last point up to t (n before the first one). -/
def fAt (f : Int → Int) (n : Int) (P : List Int) (t : Int) : Int := P.foldl (fun a p => if p ≤ t then f p else a) n
theorem fAt_cons (f : Int → Int) (n p : Int) (P : List Int) (t : Int) : fAt f n (p :: P) t = fAt f (if p ≤ t then f p else n) P t := rfl
theorem fAt_low (f : Int → Int) : ∀ (P : List Int) (x n t : Int), ascP x P = true → t ≤ x → fAt f n P t = n
  | [], _, _, _, _, _ => rfl
  | p :: P, x, n, t, h, ht => by
    obtain ⟨h1, _, h3⟩ := ascP_cons.1 h
    rw [fAt_cons, if_neg (by omega)]
    exact fAt_low f P p n t h3 (by omega)
theorem nrm_val (f : Int → Int) : ∀ (P : List Int) (x n t : Int), ascP x P = true → valF n (nrm f n P) t = fAt f n P t
  | [], _, _, _, _ => rfl
  | p :: P, x, n, t, h => by
    obtain ⟨h1, h2, h3⟩ := ascP_cons.1 h
    rw [nrm, fAt_cons]
    by_cases hf : f p = n
    · rw [if_pos hf, hf, nrm_val f P p n t h3]
      split <;> rfl
    · rw [if_neg hf, valF_cons]
      dsimp only
      by_cases ht : p ≤ t
      · rw [if_pos ht]; exact nrm_val f P p (f p) t h3
      · rw [if_neg ht, fAt_low f P p n t h3 (by omega)]
        exact valF_low _ p (f p) n t (nrm_ok f P p (f p) h3) (by omega)
theorem nrmV_val (f : Int → Int) (P : List Int) (t : Int) (h : ascP 0 P = true) (ht : 0 ≤ t) : valF 0 (nrmV f (0 :: P)) t = fAt f (f 0) P t := by
  rw [nrmV, valF_cons]
  dsimp only
  rw [if_pos ht]
  exact nrm_val f P 0 (f 0) t h
/-- The value does not change between the points of l. -/
theorem valF_const : ∀ (l : List (Int × Int)) (a t u : Int), t ≤ u → (∀ p ∈ l, ¬ (t < p.1 ∧ p.1 ≤ u)) → valF a l t = valF a l u
  | [], _, _, _, _, _ => rfl
  | p :: l, a, t, u, htu, h => by
    rw [valF_cons, valF_cons]
    have h0 := h p (by simp)
    rw [show (if p.1 ≤ t then p.2 else a) = if p.1 ≤ u then p.2 else a by
      by_cases h1 : p.1 ≤ t
      · rw [if_pos h1, if_pos (by omega)]
      · rw [if_neg h1, if_neg (by omega)]]
    exact valF_const l _ t u htu (fun q hq => h q (List.mem_cons_of_mem _ hq))
/-- A function that does not change between the points is found at the last point. -/
theorem fAt_eq (f : Int → Int) : ∀ (P : List Int) (x t : Int), ascP x P = true → x ≤ t → (∀ s u, x ≤ s → s ≤ u → u ≤ t → (∀ p ∈ P, ¬ (s < p ∧ p ≤ u)) → f s = f u) → fAt f (f x) P t = f t
  | [], x, t, _, hx, h => h x t (Int.le_refl x) hx (Int.le_refl t) (fun _ hp => by cases hp)
  | p :: P, x, t, ha, hx, h => by
    obtain ⟨h1, h2, h3⟩ := ascP_cons.1 ha
    rw [fAt_cons]
    by_cases hp : p ≤ t
    · rw [if_pos hp]
      refine fAt_eq f P p t h3 hp (fun s u hs hsu hu hq => h s u (by omega) hsu hu (fun q hm => ?_))
      rcases List.mem_cons.1 hm with rfl | hm
      · omega
      · exact hq q hm
    · rw [if_neg hp, fAt_low f P p (f x) t h3 (by omega)]
      refine h x t (Int.le_refl x) hx (Int.le_refl t) (fun q hm => ?_)
      have hall : ∀ (P : List Int) (y : Int), ascP y P = true → ∀ q ∈ P, y < q := by
        intro P
        induction P with
        | nil => intro y _ q hq; cases hq
        | cons z P ih =>
          intro y hy q hq
          obtain ⟨a, _, b⟩ := ascP_cons.1 hy
          rcases List.mem_cons.1 hq with rfl | hq
          · exact a
          · have := ih z b q hq; omega
      rcases List.mem_cons.1 hm with rfl | hm
      · omega
      · have := hall P p h3 q hm; omega
end Go.Proofs.Ytbpjgipldddcfaa
/-
  Mathematics of sums of pieces: the sum at an instant, by beginnings and endings; sums that wrap around. Conditions: none.
-/
namespace Go.Proofs.Ytbpjgipldddcfaa
set_option maxRecDepth 100000
set_option linter.unusedVariables false
set_option linter.unusedSimpArgs false

theorem wr_add (a b : Int) : IntKind.i64.wrap (IntKind.i64.wrap a + b) = IntKind.i64.wrap (a + b) := by
  rw [IntKind.wrap_i64, IntKind.wrap_i64, IntKind.wrap_i64]; omega
theorem wr_add2 (a b : Int) : IntKind.i64.wrap (a + IntKind.i64.wrap b) = IntKind.i64.wrap (a + b) := by
  rw [IntKind.wrap_i64, IntKind.wrap_i64, IntKind.wrap_i64]; omega
theorem wr_sub (a b : Int) : IntKind.i64.wrap (IntKind.i64.wrap a - b) = IntKind.i64.wrap (a - b) := by
  rw [IntKind.wrap_i64, IntKind.wrap_i64, IntKind.wrap_i64]; omega
theorem wr_sub2 (a b : Int) : IntKind.i64.wrap (a - IntKind.i64.wrap b) = IntKind.i64.wrap (a - b) := by
  rw [IntKind.wrap_i64, IntKind.wrap_i64, IntKind.wrap_i64]; omega
theorem wr_zero : IntKind.i64.wrap 0 = 0 := by rw [IntKind.wrap_i64]; decide

/-- A piece: from, to, number. -/
abbrev Pc := Int × Int × Int
def sumT (l : List Pc) (t : Int) : Int := (l.map fun c => if cnt c.1 c.2.1 t then c.2.2 else 0).sum
/-- The sum of the numbers whose key is at most t. -/
def keyS (key : Pc → Int) (l : List Pc) (t : Int) : Int := (l.map fun c => if key c ≤ t then c.2.2 else 0).sum
def okPc (c : Pc) : Bool := vld c.1 c.2.1
def begsL (l : List Pc) : List Pc := l.filter okPc
def endsL (l : List Pc) : List Pc := l.filter fun c => okPc c && decide (c.2.1 < 1099511627776)
theorem sumT_nil (t : Int) : sumT [] t = 0 := rfl
theorem sumT_cons (c : Pc) (l : List Pc) (t : Int) : sumT (c :: l) t = (if cnt c.1 c.2.1 t then c.2.2 else 0) + sumT l t := by simp [sumT]
theorem keyS_cons (key : Pc → Int) (c : Pc) (l : List Pc) (t : Int) : keyS key (c :: l) t = (if key c ≤ t then c.2.2 else 0) + keyS key l t := by simp [keyS]
theorem sum_parts : ∀ (l : List Pc) (t : Int), t < 1099511627776 → sumT l t = keyS (·.1) (begsL l) t - keyS (·.2.1) (endsL l) t
  | [], _, _ => rfl
  | c :: l, t, ht => by
    have ih := sum_parts l t ht
    obtain ⟨a, b, n⟩ := c
    rw [sumT_cons, ih]
    unfold begsL endsL
    rw [List.filter_cons, List.filter_cons]
    by_cases hv : vld a b = true
    · have hvp : 0 ≤ a ∧ a < b ∧ b ≤ 1099511627776 := by simpa [vld, and_assoc] using hv
      have hk : okPc (a, b, n) = true := hv
      rw [if_pos hk, keyS_cons]
      have hc : cnt a b t = (decide (a ≤ t) && decide (t < b)) := by simp [cnt, hv]
      by_cases hb : b < 1099511627776
      · rw [if_pos (show (okPc (a, b, n) && decide ((a, b, n).2.1 < 1099511627776)) = true by rw [hk]; simpa using hb), keyS_cons]
        dsimp only
        rw [hc]
        by_cases h1 : a ≤ t <;> by_cases h2 : t < b
        · rw [if_pos (by simp [h1, h2]), if_pos h1, if_neg (by omega)]; omega
        · rw [if_neg (by simp [h2]), if_pos h1, if_pos (by omega)]; omega
        · rw [if_neg (by simp [h1]), if_neg h1, if_neg (by omega)]; omega
        · omega
      · rw [if_neg (show ¬ (okPc (a, b, n) && decide ((a, b, n).2.1 < 1099511627776)) = true by rw [hk]; simpa using hb)]
        dsimp only
        rw [hc]
        by_cases h1 : a ≤ t
        · rw [if_pos (by simp [h1]; omega), if_pos h1]; omega
        · rw [if_neg (by simp [h1]), if_neg h1]; omega
    · have hk : ¬ okPc (a, b, n) = true := hv
      have hk2 : okPc (a, b, n) = false := by simpa using hk
      have hc : cnt a b t = false := by simp [cnt, hv]
      rw [if_neg hk, if_neg (show ¬ cnt (a, b, n).1 (a, b, n).2.1 t = true by show ¬ cnt a b t = true; rw [hc]; simp), if_neg (show ¬ (okPc (a, b, n) && decide ((a, b, n).2.1 < 1099511627776)) = true by rw [hk2]; simp)]
      omega
theorem keyS_perm {key : Pc → Int} {l m : List Pc} (h : l.Perm m) (t : Int) : keyS key l t = keyS key m t := by
  induction h with
  | nil => rfl
  | cons c _ ih => rw [keyS_cons, keyS_cons, ih]
  | swap c d l => rw [keyS_cons, keyS_cons, keyS_cons, keyS_cons]; omega
  | trans _ _ h1 h2 => rw [h1, h2]
/-- What the reference adds up. -/
def refS (l : List Pc) (t : Int) : Int := l.foldl (fun n c => if cnt c.1 c.2.1 t then IntKind.i64.wrap (n + c.2.2) else n) 0
theorem refS_aux (t : Int) : ∀ (l : List Pc) (a : Int), l.foldl (fun n c => if cnt c.1 c.2.1 t then IntKind.i64.wrap (n + c.2.2) else n) (IntKind.i64.wrap a) = IntKind.i64.wrap (a + sumT l t)
  | [], a => by rw [sumT_nil, Int.add_zero]; rfl
  | c :: l, a => by
    rw [List.foldl_cons, sumT_cons]
    cases cnt c.1 c.2.1 t
    · simp only [Bool.false_eq_true, if_false]
      rw [refS_aux t l a, Int.zero_add]
    · simp only [if_true]
      rw [wr_add, refS_aux t l (a + c.2.2), Int.add_assoc]
theorem refS_eq (l : List Pc) (t : Int) : refS l t = IntKind.i64.wrap (sumT l t) := by
  have h := refS_aux t l 0
  rw [wr_zero, Int.zero_add] at h
  exact h
/-- The sum does not change between bounds of valid pieces. -/
theorem sumT_const : ∀ (l : List Pc) (s u : Int), s ≤ u → (∀ c ∈ l, okPc c = true → ¬ (s < c.1 ∧ c.1 ≤ u) ∧ ¬ (s < c.2.1 ∧ c.2.1 ≤ u)) → sumT l s = sumT l u
  | [], _, _, _, _ => rfl
  | c :: l, s, u, hsu, h => by
    rw [sumT_cons, sumT_cons, sumT_const l s u hsu (fun d hd => h d (List.mem_cons_of_mem _ hd))]
    have hc : cnt c.1 c.2.1 s = cnt c.1 c.2.1 u := by
      by_cases hv : okPc c = true
      · have h1 := h c (by simp) hv
        have hv2 : vld c.1 c.2.1 = true := hv
        unfold cnt
        rw [hv2]
        by_cases a1 : c.1 ≤ s <;> by_cases a2 : s < c.2.1 <;> by_cases b1 : c.1 ≤ u <;> by_cases b2 : u < c.2.1 <;> simp [a1, a2, b1, b2] <;> omega
      · have hv2 : vld c.1 c.2.1 = false := by simpa [okPc] using hv
        unfold cnt
        rw [hv2]; rfl
    rw [hc]
end Go.Proofs.Ytbpjgipldddcfaa
