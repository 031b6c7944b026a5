import Derived.Test.YteihjneeiojgaaaMC
import Derived.WalkKit
import Derived.WalkSpells
import Derived.WalkLawsBesides
import Derived.Deep.QuietTactic
import Derived.BigQuiet
import Derived.Handy
import Derived.Lib.Hide
import Derived.Sort.Statements
import Derived.Shelf.GgSortFunc.Insertion
import Derived.Laws.AppendOwnNone
import Derived.Laws.MakeOwn
import Derived.Laws.OwnMore
/-
  Fits of the program: what it answers. Conditions: lengths.
-/
namespace Go.Proofs.Yteihjneeiojgaaa
set_option maxRecDepth 100000
set_option linter.unusedVariables false
set_option linter.unusedSimpArgs false
open Go.RowKit

theorem val_cells {W : World} {g : Nat} {x y z : Value} (hg : g < W.heap.size) (o : Own W g 38 #[x, y, z]) : (∀ p : After W, p.w.cell? ⟨g, 0, none⟩ = some x) ∧ (∀ p : After W, p.w.cell? ⟨g, 1, none⟩ = some y) ∧ (∀ p : After W, p.w.cell? ⟨g, 2, none⟩ = some z) :=
  ⟨after_cell hg (o.cell 0), after_cell hg (o.cell 1), after_cell hg (o.cell 2)⟩
/-- The slice v holds the numbers zs. -/
def RdI (w : World) (L B : Nat) (v : Value) (zs : List Int) : Prop :=
  ∃ A c, v = .slice A zs.length c ∧ zs.length ≤ 9223372036854775807 ∧ ∀ (k : Nat) (z : Int), zs[k]? = some z → ∃ ad : Addr, A = some ad ∧ L ≤ ad.block ∧ ad.block < B ∧ w.cell? (ad.add k) = some (.int .i64 z)
theorem RdI.below {w w' : World} {L B : Nat} {v : Value} {zs : List Int} (h : RdI w L B v zs) (hb : Below B w w') : RdI w' L B v zs := by
  obtain ⟨A, c, hv, hl, hc⟩ := h
  exact ⟨A, c, hv, hl, fun k n hk => let ⟨ad, h1, h0, h2, h3⟩ := hc k n hk; ⟨ad, h1, h0, h2, (hb.cell (p := ad.add k) (by rw [add_block]; exact h2)).trans h3⟩⟩
theorem RdI.more {w : World} {L B B' : Nat} {v : Value} {zs : List Int} (h : RdI w L B v zs) (hB : B ≤ B') : RdI w L B' v zs := by
  obtain ⟨A, c, hv, hl, hc⟩ := h
  exact ⟨A, c, hv, hl, fun k n hk => let ⟨ad, h1, h0, h2, h3⟩ := hc k n hk; ⟨ad, h1, h0, Nat.lt_of_lt_of_le h2 hB, h3⟩⟩
theorem RdI.step {w w' : World} {L B : Nat} {v : Value} {zs : List Int} (h : RdI w L B v zs) (hb : Below w.heap.size w w') (hB : B ≤ w.heap.size) : RdI w' L w'.heap.size v zs :=
  ((h.more hB).below hb).more hb.size
/-- Whether the first k columns fit. -/
def fitP (p : Vl) (z : Int) : Bool := okP p && !(!(p.1 == z) && !(p.1 == 0))
def fitL : List Vl → List Int → Bool
  | p :: ps, z :: zs => fitP p z && fitL ps zs
  | _, _ => true
def fitsF (ps : List Vl) (zs : List Int) : Bool := decide (ps.length = zs.length) && fitL ps zs
theorem fitL_drop (ps : List Vl) (zs : List Int) (k : Nat) (p : Vl) (z : Int) (hp : ps[k]? = some p) (hz : zs[k]? = some z) : fitL (ps.drop k) (zs.drop k) = (fitP p z && fitL (ps.drop (k + 1)) (zs.drop (k + 1))) := by
  obtain ⟨h1, rfl⟩ := List.getElem?_eq_some_iff.1 hp
  obtain ⟨h2, rfl⟩ := List.getElem?_eq_some_iff.1 hz
  rw [List.drop_eq_getElem_cons h1, List.drop_eq_getElem_cons h2]
  rfl
theorem fitL_end (ps : List Vl) (zs : List Int) (k : Nat) (h : ¬ k < ps.length) : fitL (ps.drop k) (zs.drop k) = true := by
  rw [List.drop_eq_nil_of_le (by omega)]; rfl
end Go.Proofs.Yteihjneeiojgaaa
/-
  The order of rows is a strict total order (mathematics). Conditions: none.
-/
namespace Go.Proofs.Yteihjneeiojgaaa
set_option maxRecDepth 100000
set_option linter.unusedVariables false
set_option linter.unusedSimpArgs false
open Go.RowKit Go.Sort

theorem bl_trans : ∀ x y z : List UInt8, Op.bytesLess x y = true → Op.bytesLess y z = true → Op.bytesLess x z = true
  | [], _, [], _, h2 => by rw [bl_nil] at h2; cases h2
  | [], _, _ :: _, _, _ => rfl
  | _ :: _, [], _, h1, _ => by rw [bl_nil] at h1; cases h1
  | _ :: _, _ :: _, [], _, h2 => by rw [bl_nil] at h2; cases h2
  | a :: x, b :: y, c :: z, h1, h2 => by
    rcases tri a b with h | h | h
    · rcases tri b c with g | g | g
      · exact bl_lt _ _ (by rw [u8_lt] at *; omega)
      · subst g; exact bl_lt _ _ h
      · rw [bl_gt _ _ g] at h2; cases h2
    · subst h
      rcases tri a c with g | g | g
      · exact bl_lt _ _ g
      · subst g
        rw [bl_eq] at *
        exact bl_trans x y z h1 h2
      · rw [bl_gt _ _ g] at h2; cases h2
    · rw [bl_gt _ _ h] at h1; cases h1
theorem lessP_trans (p q r : Vl) (h1 : lessP p q = true) (h2 : lessP q r = true) : lessP p r = true := by
  unfold lessP at *
  simp only [Bool.or_eq_true, Bool.and_eq_true, decide_eq_true_eq] at *
  rcases h1 with h1 | ⟨e1, h1 | ⟨e2, h1⟩⟩
  · rcases h2 with h2 | ⟨f1, _⟩
    · left; omega
    · left; omega
  · rcases h2 with h2 | ⟨f1, h2 | ⟨f2, h2⟩⟩
    · left; omega
    · right; exact ⟨by omega, .inl (by omega)⟩
    · right; exact ⟨by omega, .inl (by omega)⟩
  · rcases h2 with h2 | ⟨f1, h2 | ⟨f2, h2⟩⟩
    · left; omega
    · right; exact ⟨by omega, .inl (by omega)⟩
    · right; exact ⟨by omega, .inr ⟨by omega, bl_trans _ _ _ h1 h2⟩⟩
theorem cmpR_eq : ∀ ps qs : List Vl, cmpR ps qs = 0 ↔ ps = qs
  | [], [] => ⟨fun _ => rfl, fun _ => rfl⟩
  | [], q :: qs => ⟨fun h => (by have h2 : (-1 : Int) = 0 := h; omega), fun h => (by cases h)⟩
  | p :: ps, [] => ⟨fun h => (by have h2 : (1 : Int) = 0 := h; omega), fun h => (by cases h)⟩
  | p :: ps, q :: qs => by
    show (if lessP p q = true then -1 else if p = q then cmpR ps qs else 1) = 0 ↔ _
    by_cases h : lessP p q = true
    · rw [if_pos h]
      refine ⟨fun e => (by omega), fun e => ?_⟩
      injection e with e1 _
      subst e1
      rw [lessP_irr] at h; cases h
    · rw [if_neg h]
      by_cases h2 : p = q
      · rw [if_pos h2, cmpR_eq ps qs, h2]
        exact ⟨fun e => by rw [e], fun e => by injection e⟩
      · rw [if_neg h2]
        refine ⟨fun e => (by omega), fun e => ?_⟩
        injection e with e1 _
        exact absurd e1 h2
theorem cmpR_neg : ∀ ps qs : List Vl, cmpR qs ps = - cmpR ps qs
  | [], [] => rfl
  | [], q :: qs => rfl
  | p :: ps, [] => rfl
  | p :: ps, q :: qs => by
    show (if lessP q p = true then -1 else if q = p then cmpR qs ps else 1) = - (if lessP p q = true then -1 else if p = q then cmpR ps qs else 1)
    by_cases h2 : p = q
    · subst h2
      rw [lessP_irr, if_neg (by decide), if_pos rfl, if_neg (by decide), if_pos rfl]
      exact cmpR_neg ps qs
    · have h3 := lessP_total p q h2
      have h4 : ¬ q = p := fun e => h2 e.symm
      cases hq : lessP q p
      · rw [hq] at h3; simp [h3, h4]
      · rw [hq] at h3; simp [h3, h2]
theorem cmpR_lt_cons (p q : Vl) (ps qs : List Vl) : cmpR (p :: ps) (q :: qs) < 0 ↔ lessP p q = true ∨ (p = q ∧ cmpR ps qs < 0) := by
  show (if lessP p q = true then -1 else if p = q then cmpR ps qs else 1) < 0 ↔ _
  by_cases h : lessP p q = true
  · simp [h]
  · by_cases h2 : p = q
    · subst h2; simp [lessP_irr]
    · simp [h, h2]
theorem cmpR_trans : ∀ a b c : List Vl, cmpR a b < 0 → cmpR b c < 0 → cmpR a c < 0
  | [], [], _, h1, _ => absurd h1 (by decide)
  | [], _ :: _, [], _, h2 => absurd h2 (by show ¬ (1 : Int) < 0; decide)
  | [], _ :: _, _ :: _, _, _ => by show (-1 : Int) < 0; decide
  | _ :: _, [], _, h1, _ => absurd h1 (by show ¬ (1 : Int) < 0; decide)
  | _ :: _, _ :: _, [], _, h2 => absurd h2 (by show ¬ (1 : Int) < 0; decide)
  | p :: a, q :: b, r :: c, h1, h2 => by
    rw [cmpR_lt_cons] at *
    rcases h1 with h1 | ⟨rfl, h1⟩
    · rcases h2 with h2 | ⟨rfl, _⟩
      · exact .inl (lessP_trans _ _ _ h1 h2)
      · exact .inl h1
    · rcases h2 with h2 | ⟨rfl, h2⟩
      · exact .inl h2
      · exact .inr ⟨rfl, cmpR_trans a b c h1 h2⟩
/-- The order of rows, as sorting asks for it. -/
theorem swoR : SWO (fun x y : List Vl => decide (cmpR x y < 0)) where
  irrefl x := by rw [(cmpR_eq x x).2 rfl]; rfl
  trans x y z h1 h2 := by
    simp only [decide_eq_true_eq] at *
    exact cmpR_trans x y z h1 h2
  ntrans x y z h1 h2 := by
    simp only [decide_eq_false_iff_not] at *
    intro h3
    by_cases e : x = y
    · subst e; exact h2 h3
    · have h4 : cmpR y x < 0 := by
        have h5 := cmpR_neg x y
        have h6 : cmpR x y ≠ 0 := fun e2 => e ((cmpR_eq x y).1 e2)
        omega
      exact h2 (cmpR_trans y x z h4 h3)
end Go.Proofs.Yteihjneeiojgaaa
/-
  The order of rows by columns is a strict total order; sorted lists (mathematics). Conditions: none.
-/
namespace Go.Proofs.Yteihjneeiojgaaa
set_option maxRecDepth 100000
set_option linter.unusedVariables false
set_option linter.unusedSimpArgs false
open Go.RowKit Go.Sort

/-- The column i of a row: a null if there is none. -/
def atP (ps : List Vl) (i : Int) : Vl := if 0 ≤ i then ps.getD i.toNat zV else zV
theorem cmpP_neg (p q : Vl) : cmpP q p = - cmpP p q := by
  unfold cmpP
  by_cases h2 : p = q
  · subst h2; simp [lessP_irr]
  · have h3 := lessP_total p q h2
    have h4 : ¬ q = p := fun e => h2 e.symm
    cases hq : lessP q p
    · rw [hq] at h3; have h5 : lessP p q = true := by rw [h3]; rfl
      simp [h5, h4]
    · rw [hq] at h3; have h5 : lessP p q = false := by rw [h3]; rfl
      simp [h5, h2]
theorem cmpP_zero (p q : Vl) : cmpP p q = 0 ↔ p = q := by
  unfold cmpP
  by_cases h2 : p = q
  · subst h2; simp [lessP_irr]
  · by_cases h : lessP p q = true <;> simp [h, h2]
theorem cmpP_lt (p q : Vl) : cmpP p q < 0 ↔ lessP p q = true := by
  unfold cmpP
  by_cases h : lessP p q = true
  · simp [h]
  · by_cases h2 : p = q
    · subst h2; simp [lessP_irr]
    · simp [h, h2]
/-- Comparing by one column. -/
def colO (k : Int × Bool) (a b : List Vl) : Int := if k.2 then cmpP (atP b k.1) (atP a k.1) else cmpP (atP a k.1) (atP b k.1)
theorem colO_neg (k : Int × Bool) (a b : List Vl) : colO k b a = - colO k a b := by
  unfold colO
  split <;> exact cmpP_neg _ _
theorem colO_trans (k : Int × Bool) (a b c : List Vl) (h1 : colO k a b < 0) (h2 : colO k b c < 0) : colO k a c < 0 := by
  unfold colO at *
  split at h1
  · next h => rw [if_pos h] at h2 ⊢; rw [cmpP_lt] at *; exact lessP_trans _ _ _ h2 h1
  · next h => rw [if_neg h] at h2 ⊢; rw [cmpP_lt] at *; exact lessP_trans _ _ _ h1 h2
theorem colO_eq_left (k : Int × Bool) (a b c : List Vl) (h : colO k a b = 0) : colO k a c = colO k b c := by
  unfold colO at *
  split at h
  · next h' => rw [cmpP_zero] at h; rw [if_pos h', if_pos h', h]
  · next h' => rw [cmpP_zero] at h; rw [if_neg h', if_neg h', h]
theorem colO_eq_right (k : Int × Bool) (a b c : List Vl) (h : colO k b c = 0) : colO k a b = colO k a c := by
  unfold colO at *
  split at h
  · next h' => rw [cmpP_zero] at h; rw [if_pos h', if_pos h', h]
  · next h' => rw [cmpP_zero] at h; rw [if_neg h', if_neg h', h]
/-- Comparing by columns, then as rows. -/
def cmpO : List (Int × Bool) → List Vl → List Vl → Int
  | [], a, b => cmpR a b
  | k :: t, a, b => if colO k a b = 0 then cmpO t a b else colO k a b
theorem cmpO_neg : ∀ (o : List (Int × Bool)) (a b : List Vl), cmpO o b a = - cmpO o a b
  | [], a, b => cmpR_neg a b
  | k :: t, a, b => by
    show (if colO k b a = 0 then cmpO t b a else colO k b a) = - (if colO k a b = 0 then cmpO t a b else colO k a b)
    rw [colO_neg k a b]
    by_cases h : colO k a b = 0
    · rw [if_pos (by omega), if_pos h, cmpO_neg t a b]
    · rw [if_neg (by omega), if_neg h]
theorem cmpO_eq : ∀ (o : List (Int × Bool)) (a b : List Vl), cmpO o a b = 0 ↔ a = b
  | [], a, b => cmpR_eq a b
  | k :: t, a, b => by
    show (if colO k a b = 0 then cmpO t a b else colO k a b) = 0 ↔ _
    by_cases h : colO k a b = 0
    · rw [if_pos h, cmpO_eq t a b]
    · rw [if_neg h]
      refine ⟨fun h2 => absurd h2 h, fun e => ?_⟩
      subst e
      unfold colO
      split <;> rw [cmpP_zero]
theorem cmpO_trans : ∀ (o : List (Int × Bool)) (a b c : List Vl), cmpO o a b < 0 → cmpO o b c < 0 → cmpO o a c < 0
  | [], a, b, c, h1, h2 => cmpR_trans a b c h1 h2
  | k :: t, a, b, c, h1, h2 => by
    show (if colO k a c = 0 then cmpO t a c else colO k a c) < 0
    change (if colO k a b = 0 then cmpO t a b else colO k a b) < 0 at h1
    change (if colO k b c = 0 then cmpO t b c else colO k b c) < 0 at h2
    by_cases e1 : colO k a b = 0
    · rw [if_pos e1] at h1
      rw [colO_eq_left k a b c e1]
      by_cases e2 : colO k b c = 0
      · rw [if_pos e2] at h2 ⊢; exact cmpO_trans t a b c h1 h2
      · rw [if_neg e2] at h2 ⊢; exact h2
    · rw [if_neg e1] at h1
      by_cases e2 : colO k b c = 0
      · rw [← colO_eq_right k a b c e2, if_neg e1]; exact h1
      · rw [if_neg e2] at h2
        have h3 := colO_trans k a b c h1 h2
        rw [if_neg (by omega)]; exact h3
theorem swoO (o : List (Int × Bool)) : SWO (fun x y : List Vl => decide (cmpO o x y < 0)) where
  irrefl x := by rw [(cmpO_eq o x x).2 rfl]; rfl
  trans x y z h1 h2 := by
    simp only [decide_eq_true_eq] at *
    exact cmpO_trans o x y z h1 h2
  ntrans x y z h1 h2 := by
    simp only [decide_eq_false_iff_not] at *
    intro h3
    by_cases e : x = y
    · subst e; exact h2 h3
    · have h4 : cmpO o y x < 0 := by
        have h5 := cmpO_neg o x y
        have h6 : cmpO o x y ≠ 0 := fun e2 => e ((cmpO_eq o x y).1 e2)
        omega
      exact h2 (cmpO_trans o y x z h4 h3)
/-- Whether a row does not come behind another one. -/
def leO (o : List (Int × Bool)) (a b : List Vl) : Bool := decide (¬ cmpO o b a < 0)
theorem leO_trans (o : List (Int × Bool)) (a b c : List Vl) (h1 : leO o a b = true) (h2 : leO o b c = true) : leO o a c = true := by
  unfold leO at *
  simp only [decide_eq_true_eq] at *
  intro h3
  have h4 := (swoO o).ntrans c b a (by simpa using h2) (by simpa using h1)
  simp only [decide_eq_false_iff_not] at h4
  exact h4 h3
theorem leO_total (o : List (Int × Bool)) (a b : List Vl) : (leO o a b || leO o b a) = true := by
  unfold leO
  simp only [Bool.or_eq_true, decide_eq_true_eq]
  have := cmpO_neg o a b
  omega
theorem leO_anti (o : List (Int × Bool)) (a b : List Vl) (h1 : leO o a b = true) (h2 : leO o b a = true) : a = b := by
  unfold leO at *
  simp only [decide_eq_true_eq] at *
  have := cmpO_neg o a b
  exact (cmpO_eq o a b).1 (by omega)
/-- The list of rows in order. -/
def sortO (o : List (Int × Bool)) (l : List (List Vl)) : List (List Vl) := l.mergeSort (leO o)
theorem sortO_perm (o : List (Int × Bool)) (l : List (List Vl)) : (sortO o l).Perm l := List.mergeSort_perm l _
theorem sortO_pair (o : List (Int × Bool)) (l : List (List Vl)) : (sortO o l).Pairwise (fun a b => leO o a b = true) := List.pairwise_mergeSort (leO_trans o) (leO_total o) l
theorem sortO_len (o : List (Int × Bool)) (l : List (List Vl)) : (sortO o l).length = l.length := (sortO_perm o l).length_eq
/-- A list in order is the list in order. -/
theorem sortO_of (o : List (Int × Bool)) (l D : List (List Vl)) (hp : D.Perm l) (hs : D.Pairwise (fun a b => leO o a b = true)) : D = sortO o l :=
  List.Perm.eq_of_pairwise (fun a b _ _ h1 h2 => leO_anti o a b h1 h2) hs (sortO_pair o l) (hp.trans (sortO_perm o l).symm)
theorem sortO_congr (o : List (Int × Bool)) (l m : List (List Vl)) (h : l.Perm m) : sortO o l = sortO o m :=
  sortO_of o m _ ((sortO_perm o l).trans h) (sortO_pair o l)
/-- The list in order, by halves. -/
theorem sortO_halves (o : List (Int × Bool)) (l : List (List Vl)) (m : Nat) : sortO o l = (sortO o (l.take m)).merge (sortO o (l.drop m)) (leO o) := by
  symm
  refine sortO_of o l _ ?_ (List.pairwise_merge (leO_trans o) (leO_total o) _ _ (sortO_pair o _) (sortO_pair o _))
  refine (List.merge_perm_append _).trans ?_
  have h := (sortO_perm o (l.take m)).append (sortO_perm o (l.drop m))
  rwa [List.take_append_drop] at h
/-- One step of merging. -/
theorem merge_drop_b {A B : List (List Vl)} {o : List (Int × Bool)} (i k : Nat) (b : List Vl) (hb : B[k]? = some b) (h : A.length ≤ i ∨ ∃ a, A[i]? = some a ∧ cmpO o b a < 0) :
    (A.drop i).merge (B.drop k) (leO o) = b :: (A.drop i).merge (B.drop (k + 1)) (leO o) := by
  obtain ⟨hk, rfl⟩ := List.getElem?_eq_some_iff.1 hb
  rw [List.drop_eq_getElem_cons hk]
  rcases h with h | ⟨a, ha, h⟩
  · rw [List.drop_eq_nil_of_le h, List.nil_merge, List.nil_merge]
  · obtain ⟨hi, rfl⟩ := List.getElem?_eq_some_iff.1 ha
    rw [List.drop_eq_getElem_cons hi, List.cons_merge_cons, if_neg (by unfold leO; simpa using h)]
theorem merge_drop_a {A B : List (List Vl)} {o : List (Int × Bool)} (i k : Nat) (a : List Vl) (ha : A[i]? = some a) (h : B.length ≤ k ∨ ∃ b, B[k]? = some b ∧ ¬ cmpO o b a < 0) :
    (A.drop i).merge (B.drop k) (leO o) = a :: (A.drop (i + 1)).merge (B.drop k) (leO o) := by
  obtain ⟨hi, rfl⟩ := List.getElem?_eq_some_iff.1 ha
  rw [List.drop_eq_getElem_cons hi]
  rcases h with h | ⟨b, hb, h⟩
  · rw [List.drop_eq_nil_of_le h, List.merge_right, List.merge_right]
  · obtain ⟨hk, rfl⟩ := List.getElem?_eq_some_iff.1 hb
    rw [List.drop_eq_getElem_cons hk, List.cons_merge_cons, if_pos (by unfold leO; simpa using h)]
end Go.Proofs.Yteihjneeiojgaaa
/-
  Comparing rows, the program's side, with the world that is left said exactly enough for a callback of slices.SortFunc. Conditions: lengths. (Written by mkTuG.py.)
-/
namespace Go.Proofs.Yteihjneeiojgaaa
set_option maxRecDepth 100000
set_option linter.unusedVariables false
set_option linter.unusedSimpArgs false
open Go.RowKit

/-- Nothing old is written, and the draws don't go back. -/
def GB (w w' : World) : Prop := Below w.heap.size w w' ∧ w.drawn ≤ w'.drawn
theorem gb_of {w w' : World} (h : Below w.heap.size w w') (hd : w.drawn ≤ w'.drawn) : GB w w' := ⟨h, hd⟩
theorem GB.refl (w : World) : GB w w := ⟨Below.refl _ _, Nat.le_refl _⟩
theorem GB.trans {w a b : World} (h : GB w a) (k : GB a b) : GB w b := ⟨h.1.trans (k.1.mono h.1.size), Nat.le_trans h.2 k.2⟩
theorem GB.grow {w w' : World} (h : GB w w') : ∃ q os, w' = Go.Sort.grow (w.drewN q) os := by
  obtain ⟨hb, hd⟩ := h
  refine ⟨w'.drawn - w.drawn, w'.heap.extract w.heap.size w'.heap.size, ?_⟩
  have h1 : w'.heap = w.heap ++ w'.heap.extract w.heap.size w'.heap.size := by
    have hz := hb.size
    apply Array.ext
    · simp; omega
    · intro i h1 h2
      by_cases hi : i < w.heap.size
      · have h3 := hb.block i hi
        rw [Array.getElem_append_left hi]
        rw [Array.getElem?_eq_getElem h1, Array.getElem?_eq_getElem hi] at h3
        exact Option.some.inj h3
      · rw [Array.getElem_append_right (by omega), Array.getElem_extract]
        congr 1
        omega
  have e1 := hb.os; have e2 := hb.tape; have e3 := hb.output
  cases w' with
  | mk heap' tape' drawn' os' output' =>
    cases w with
    | mk heap tape drawn os output =>
      dsimp only at *
      subst e1 e2 e3
      unfold Go.Sort.grow World.drewN
      dsimp only
      congr 1
      omega
/-- A world behind W in which nothing old is written and the draws don't go back. -/
structure AftD (W : World) where
  w : World
  h : GB W w
instance {W : World} : Nonempty (AftD W) := ⟨⟨W, GB.refl _⟩⟩
instance {W : World} : Inhabited (AftD W) := ⟨⟨W, GB.refl _⟩⟩
theorem aftD_cell {W : World} {a : Addr} {v : Value} (hb : a.block < W.heap.size) (h : W.cell? a = some v) (p : AftD W) : p.w.cell? a = some v := (p.h.1.cell hb).trans h
theorem calls_aftD {P : Program} {f : FuncId} {args : Array Value} {W : World} {p : AftD W} {v : Value} (h : Calls P f args p.w fun e w' => e = .returned v ∧ GB p.w w') :
    Calls P f args p.w fun e w'' => e = .returned v ∧ ∃ q : AftD W, w'' = q.w :=
  h.mono fun _ _ ⟨he, hb⟩ => ⟨he, ⟨_, p.h.trans hb⟩, rfl⟩
theorem wp_region_aftD {P : Program} {id : Nat} {Q : Exit → Act → World → Prop} {a : Act} {w : World} {l : List Oper} (hm : P.follows .mixedOrders = true) (hB : Region.lexB .any l.toArray = true)
    (h : wpQuiet P l.toArray (fun w' => ∃ p : AftD w, w' = p.w) (fun a' => ∀ w', (∃ p : AftD w, w' = p.w) → Q .normal a' w') l a) : (Code.region id l.toArray true).wp P Q a w :=
  wp_region_quiet (C := fun w' => ∃ p : AftD w, w' = p.w) hm hB ⟨⟨w.drew, Below.drew (Below.refl _ _), by simp⟩, rfl⟩ (by simpa using h)
end Go.Proofs.Yteihjneeiojgaaa
/-
  Lists of rows as they are read; slices.Clone of values; rows of slices that are made. Conditions: lengths. (Written by mkTuR.py.)
-/
namespace Go.Proofs.Yteihjneeiojgaaa
set_option maxRecDepth 100000
set_option linter.unusedVariables false
set_option linter.unusedSimpArgs false
open Go.RowKit

theorem addB1 (ad : Addr) : ad.add 1 = ⟨ad.block, ad.off + 1, none⟩ := by unfold Addr.add; simp
theorem addB2 (ad : Addr) : ad.add 2 = ⟨ad.block, ad.off + 2, none⟩ := by unfold Addr.add; simp
theorem flat_of_rdV {w : World} {L B : Nat} {ad : Addr} {n c : Nat} {m : List Vl} (h : RdV w L B (.slice (some ad) n c) m) : ∀ (j : Nat) u, (flatV m)[j]? = some u → w.cell? (ad.add j) = some u := by
  intro j u hu
  obtain ⟨A, c', hv, _, hc⟩ := h
  injection hv with e1 _ _
  subst e1
  have hj : j < m.length * 3 := by rw [← flatV_len]; exact (List.getElem?_eq_some_iff.1 hu).1
  have hk : j / 3 < m.length := by omega
  obtain ⟨ad2, e2, _, _, g0, g1, g2⟩ := hc (j / 3) _ (List.getElem?_eq_getElem hk)
  injection e2 with e2
  subst e2
  obtain ⟨f0, f1, f2⟩ := flatV_get m (j / 3) _ (List.getElem?_eq_getElem hk)
  have h3 : j = j / 3 * 3 ∨ j = j / 3 * 3 + 1 ∨ j = j / 3 * 3 + 2 := by omega
  generalize j / 3 = k at *
  rcases h3 with rfl | rfl | rfl
  · rw [f0] at hu; rw [← hu]; exact g0
  · rw [f1] at hu; rw [← hu, ← add_add ad (k * 3) 1, addB1 (ad.add (k * 3))]; exact g1
  · rw [f2] at hu; rw [← hu, ← add_add ad (k * 3) 2, addB2 (ad.add (k * 3))]; exact g2
theorem append_vx {ops : Array Oper} {rest : List Oper} {o : Oper} {a : Act} {Q : Exit → Act → World → Prop} (W : World) (hw : Region.wanted o (yielded ops a.tmps) = true) (s x : Operand)
    (ho : o.op = .call { callee := .builtin .append, args := #[s, x], argTypes := #[90, 90] }) (base : Nat) (v : Value) (l : List Vl) (hs : a.eval s = v)
    (hown : W.ownsRow base 38 3 v l.length (flatV l)) (u : Value) (m : List Vl) (L B : Nat) (hx : a.eval x = u) (hr : RdV W L B u m) (hun : ∀ n c, u = .slice none n c → c = 0) (hl : l.length + m.length ≤ 2199023255552) (hbase : base ≤ W.heap.size)
    (h : ∀ v' w', w'.ownsRow base 38 3 v' (l ++ m).length (flatV (l ++ m)) → Below base W w' → wpList Try.prog ops Q rest (a.put o.dst v') w') :
    wpList Try.prog ops Q (o :: rest) a W := by
  have hr0 := hr
  obtain ⟨A, c, rfl, _, hc⟩ := hr
  obtain ⟨i0, hi, hz0, hz1, hz2⟩ := info_partsB infoV
  unfold wpList
  rw [if_pos hw]
  refine Or.inl ?_
  cases A with
  | none =>
    have hm0 : m = [] := by
      cases m with
      | nil => rfl
      | cons b t => obtain ⟨ad, h1, _⟩ := hc 0 _ rfl; cases h1
    subst hm0
    obtain rfl := hun _ _ rfl
    have hrun := run_append_owned_none (P := Try.prog) (w := W) base 90 o.type 38 i0 3 Try.underlying90 hi v _ _ hown
    unfold Oper.wp
    simp [execOp, ho, resolve, invoke, builtin, hs, hx, hrun, Result.andThen]
    exact h v W (by rw [List.append_nil]; exact hown) (Below.refl _ _)
  | some ad =>
    refine wp_append_own W s x 90 ho base 38 i0 (.agg #[.int .i64 0, .int .i64 0, .string ⟨#[]⟩]) 3 32 Try.underlying90 hi hz0 hz1 hz2 rfl (by decide) v l.length (flatV l) hs hown ad m.length c (flatV m) hx (by rw [flatV_len])
      (flat_of_rdV hr0) (fun u hu => ?_) (by unfold maxLen; omega) (by omega) hbase ?_
    · have hall : ∀ ps : List Vl, ∀ u ∈ flatV ps, u.oneCell' = true := by
        intro ps
        induction ps with
        | nil => intro u hu; cases hu
        | cons p t ih =>
          intro u hu
          have hu2 : u ∈ (.int .i64 p.1 :: .int .i64 p.2.1 :: .string p.2.2 :: flatV t : List Value) := hu
          simp only [List.mem_cons] at hu2
          rcases hu2 with rfl | rfl | rfl | hu2
          · rfl
          · rfl
          · rfl
          · exact ih u hu2
      exact hall m u hu
    · intro v' w' h1 h2 _
      exact h v' w' (by rw [flatV_append, List.length_append]; exact h1) ((Below.refl _ _).grown h2 hbase fun k hk => (hown.lt k hk).1)
theorem own_litV (w : World) : (w.alloc (.cells #[] 38)).ownsRow w.heap.size 38 3 (.slice (some ⟨w.heap.size, 0, none⟩) 0 0) ([] : List Vl).length (flatV []) :=
  ⟨rfl, .inr ⟨w.heap.size, 0, #[], rfl, Nat.le_refl _, heap_alloc_new w _, Nat.le_refl _, Nat.zero_le _, rfl, rfl⟩⟩

theorem RdV.unnil {w : World} {L B : Nat} {u : Value} {p : List Vl} (_ : RdV w L B u p) {g n c : Nat} (h : u = .slice (some ⟨g, 0, none⟩) n c) : ∀ n c, u = .slice none n c → c = 0 := by
  subst h; intro n c e; cases e
/-- The slice u holds the values p, and is nil only without room. -/
def RdN (w : World) (L B : Nat) (u : Value) (p : List Vl) : Prop := RdV w L B u p ∧ ∀ n c, u = .slice none n c → c = 0
theorem RdN.below {w w' : World} {L B : Nat} {u : Value} {p : List Vl} (h : RdN w L B u p) (hb : Below B w w') : RdN w' L B u p := ⟨h.1.below hb, h.2⟩
theorem RdN.more {w : World} {L B B' : Nat} {u : Value} {p : List Vl} (h : RdN w L B u p) (hB : B ≤ B') : RdN w L B' u p := ⟨h.1.more hB (Nat.le_refl _), h.2⟩
theorem RdN.step {w w' : World} {L B : Nat} {u : Value} {p : List Vl} (h : RdN w L B u p) (hb : Below w.heap.size w w') (hB : B ≤ w.heap.size) : RdN w' L w'.heap.size u p := ⟨h.1.step hb hB, h.2⟩
theorem RdV.low {w : World} {L L' B : Nat} {u : Value} {p : List Vl} (h : RdV w L B u p) (hL : L' ≤ L) : RdV w L' B u p := by
  obtain ⟨A, c, hv, hl, hc⟩ := h
  exact ⟨A, c, hv, hl, fun k n hk => let ⟨ad, h1, h0, h2⟩ := hc k n hk; ⟨ad, h1, Nat.le_trans hL h0, h2⟩⟩
theorem RdN.low {w : World} {L L' B : Nat} {u : Value} {p : List Vl} (h : RdN w L B u p) (hL : L' ≤ L) : RdN w L' B u p := ⟨h.1.low hL, h.2⟩
theorem rdN_nil (w : World) (L B : Nat) : RdN w L B (.slice none 0 0) [] := ⟨rdV_nil w L B, fun n c e => by injection e with _ _ e3; exact e3.symm⟩
theorem RdN.of_own {w : World} {base : Nat} {v : Value} {ps : List Vl} (h : w.ownsRow base 38 3 v ps.length (flatV ps)) (hl : ps.length ≤ 9223372036854775807) : RdN w base w.heap.size v ps := by
  refine ⟨RdV.of_own h hl, ?_⟩
  obtain ⟨_, h | ⟨g, c, cs, rfl, _⟩⟩ := h
  · obtain ⟨rfl, _⟩ := h; intro n c e; injection e with _ _ e3; exact e3.symm
  · intro n c e; cases e
/-- A change that leaves all blocks but g as they were leaves what is read beside g. -/
theorem RdN.grown {w w' : World} {g B : Nat} {L : Nat} {u : Value} {p : List Vl} (h : RdN w L B u p) (hg : w.grownBy w' (some g)) (hL : g < L) (hB : B ≤ w.heap.size) : RdN w' L w'.heap.size u p := by
  obtain ⟨⟨A, c, hv, hl, hc⟩, h2⟩ := h
  have hz := hg.size
  refine ⟨⟨A, c, hv, hl, fun k n hk => ?_⟩, h2⟩
  obtain ⟨ad, h1, h0, h3, c0, c1, c2⟩ := hc k n hk
  have hne : ∀ a : Addr, a.block = ad.block → w'.cell? a = w.cell? a := fun a ha => World.grownBy.cell_far hg a (by omega) (by rw [ha]; intro e; injection e with e; omega)
  exact ⟨ad, h1, h0, by omega, (hne _ (by rw [add_block])).trans c0, (hne _ (by show (ad.add (k * 3)).block = _; rw [add_block])).trans c1, (hne _ (by show (ad.add (k * 3)).block = _; rw [add_block])).trans c2⟩
/-- The slice v holds slices that hold the rows rs. -/
def RdR (w : World) (L B : Nat) (v : Value) (rs : List (List Vl)) : Prop :=
  ∃ A c, v = .slice A rs.length c ∧ rs.length ≤ 9223372036854775807 ∧ ∀ (k : Nat) (r : List Vl), rs[k]? = some r → ∃ (ad : Addr) (u : Value), A = some ad ∧ L ≤ ad.block ∧ ad.block < B ∧ w.cell? (ad.add k) = some u ∧ RdN w 0 B u r
theorem RdR.below {w w' : World} {L B : Nat} {v : Value} {rs : List (List Vl)} (h : RdR w L B v rs) (hb : Below B w w') : RdR w' L B v rs := by
  obtain ⟨A, c, hv, hl, hc⟩ := h
  exact ⟨A, c, hv, hl, fun k n hk => let ⟨ad, u, h1, h0, h2, h3, h4⟩ := hc k n hk; ⟨ad, u, h1, h0, h2, (hb.cell (p := ad.add k) (by rw [add_block]; exact h2)).trans h3, h4.below hb⟩⟩
theorem RdR.more {w : World} {L B B' : Nat} {v : Value} {rs : List (List Vl)} (h : RdR w L B v rs) (hB : B ≤ B') : RdR w L B' v rs := by
  obtain ⟨A, c, hv, hl, hc⟩ := h
  exact ⟨A, c, hv, hl, fun k n hk => let ⟨ad, u, h1, h0, h2, h3, h4⟩ := hc k n hk; ⟨ad, u, h1, h0, Nat.lt_of_lt_of_le h2 hB, h3, h4.more hB⟩⟩
theorem RdR.low {w : World} {L L' B : Nat} {v : Value} {rs : List (List Vl)} (h : RdR w L B v rs) (hL : L' ≤ L) : RdR w L' B v rs := by
  obtain ⟨A, c, hv, hl, hc⟩ := h
  exact ⟨A, c, hv, hl, fun k n hk => let ⟨ad, u, h1, h0, h2⟩ := hc k n hk; ⟨ad, u, h1, Nat.le_trans hL h0, h2⟩⟩
theorem RdR.step {w w' : World} {L B : Nat} {v : Value} {rs : List (List Vl)} (h : RdR w L B v rs) (hb : Below w.heap.size w w') (hB : B ≤ w.heap.size) : RdR w' L w'.heap.size v rs :=
  ((h.more hB).below hb).more hb.size
/-- A row of the call's own that holds p is returned. -/
def RetC (w : World) (p : List Vl) (e : Ending) (w' : World) : Prop := ∃ u', e = .returned u' ∧ RdN w' w.heap.size w'.heap.size u' p ∧ Below w.heap.size w w'
theorem made_nth (z : Value) (n : Nat) (hz : z.cells = #[z]) : madeCells z.cells n = (List.replicate n z).toArray := by
  unfold madeCells
  rw [hz]
  apply Array.ext
  · simp
  · intro i h1 h2; simp [Nat.mod_one]
/-- The cells of a row of n slices of which those of us are set. -/
def rowH (us : List Value) (n : Nat) : Array Value := (us ++ List.replicate (n - us.length) (Value.slice none 0 0)).toArray
theorem rowH_next (us : List Value) (n : Nat) (h : us.length < n) : (rowH us n)[us.length]? = some (Value.slice none 0 0) := by
  unfold rowH
  simp only [List.getElem?_toArray]
  rw [List.getElem?_append_right (Nat.le_refl _), Nat.sub_self, List.getElem?_replicate, if_pos (by omega)]
theorem rowH_set (us : List Value) (n : Nat) (u : Value) (h : us.length < n) : (rowH us n).setIfInBounds us.length u = rowH (us ++ [u]) n := by
  unfold rowH
  rw [List.setIfInBounds_toArray]
  congr 1
  rw [List.set_append_right _ _ (Nat.le_refl _), Nat.sub_self, show n - us.length = (n - (us ++ [u]).length) + 1 by rw [List.length_append]; simp; omega]
  simp [List.replicate_succ]
theorem infoR : (Try.prog.info? 90).map (fun i => (i.zero, i.size, i.bytes)) = some (some (.slice none 0 0), 1, 24) := by kernel_rfl
end Go.Proofs.Yteihjneeiojgaaa
/-
  One column of a row, of the program and of the reference; comparing by one column; the closure of tuple.Order. Conditions: lengths. (Written by mkTuC.py.)
-/
namespace Go.Proofs.Yteihjneeiojgaaa
set_option maxRecDepth 100000
set_option linter.unusedVariables false
set_option linter.unusedSimpArgs false
open Go.RowKit

theorem atP_neg (p : List Vl) (i : Int) (h : i < 0) : atP p i = zV := by unfold atP; rw [if_neg (by omega)]
theorem atP_out (p : List Vl) (k : Nat) (h : ¬ k < p.length) : atP p (k : Nat) = zV := by
  unfold atP; rw [if_pos (by omega), Int.toNat_natCast, List.getD_eq_getElem?_getD, List.getElem?_eq_none (by omega)]; rfl
theorem atP_in (p : List Vl) (k : Nat) (h : k < p.length) : atP p (k : Nat) = p[k] := by
  unfold atP; rw [if_pos (by omega), Int.toNat_natCast, List.getD_eq_getElem?_getD, List.getElem?_eq_getElem h]; rfl
set_option maxHeartbeats 400000 in
theorem grNull_any (w : World) : Calls Try.prog 43 #[] w fun e w' => e = .returned (.agg #[.int .i64 0, .int .i64 0, .string ⟨#[]⟩]) ∧ GB w w' := by
  go_enter Try.func43, Try.ntmps43
  go_wp2
  (try simp only [Exit.inBlock, Exit.then]); refine bodyPost_ret_by (results_cell_row1 (by rfl) _ _ (w.heap.size) _ (by rfl) (load_val (Own.new _ _ _))) ?_ ?_; (focus rfl); refine ⟨rfl, ?_⟩
  refine gb_of ?_ (by first | exact Nat.le_refl _ | (simp; omega))
  (repeat' (first | (with_reducible exact Below.refl _ _) | (with_reducible assumption) | (with_reducible refine Below.alloc ?_ ?_ _) | (with_reducible refine Below.drew ?_) | (with_reducible refine Below.setCell ?_ ?_ _) | (with_reducible refine Below.trans ?_ (Below.mono (by assumption) ?_)) | go_size))
end Go.Proofs.Yteihjneeiojgaaa
/-
  Rows of numbers that a call makes. Conditions: lengths.
-/
namespace Go.Proofs.Yteihjneeiojgaaa
set_option maxRecDepth 100000
set_option linter.unusedVariables false
set_option linter.unusedSimpArgs false
open Go.RowKit

theorem infoI13 : (Try.prog.info? 3).map (fun i => (i.zero, i.size, i.bytes)) = some (some (.int .i64 0), 1, 8) := by kernel_rfl
/-- The cells of n numbers of which those of zs are set. -/
def rowZ (zs : List Int) (n : Nat) : Array Value := (zs.map (Value.int .i64) ++ List.replicate (n - zs.length) (Value.int .i64 0)).toArray
theorem rowZ_next (zs : List Int) (n : Nat) (h : zs.length < n) : (rowZ zs n)[zs.length]? = some (Value.int .i64 0) := by
  unfold rowZ
  simp only [List.getElem?_toArray]
  rw [List.getElem?_append_right (by simp), List.length_map, Nat.sub_self, List.getElem?_replicate, if_pos (by omega)]
theorem rowZ_set (zs : List Int) (n : Nat) (z : Int) (h : zs.length < n) : (rowZ zs n).setIfInBounds zs.length (.int .i64 z) = rowZ (zs ++ [z]) n := by
  unfold rowZ
  rw [List.setIfInBounds_toArray]
  congr 1
  rw [List.set_append_right _ _ (by simp), List.length_map, Nat.sub_self, show n - zs.length = (n - (zs ++ [z]).length) + 1 by rw [List.length_append]; simp; omega]
  simp [List.replicate_succ]
theorem made_rowZ (W : World) (n : Nat) (hn : n ≤ 1099511627776) :
    (Instr.makeSlice 23 (.int .i64 (n : Nat)) (.int .i64 (n : Nat))).run Try.prog W = .ok (.slice (some ⟨W.heap.size, 0, none⟩) n n) (W.alloc (.cells (rowZ [] n) 3)) := by
  obtain ⟨i0, hi, hz0, hz1, hz2⟩ := info_partsB infoI13
  have h := run_make (P := Try.prog) (w := W) 23 3 i0 (.int .i64 0) Try.underlying23 hi hz0 .i64 .i64 (n : Int) (n : Int) (by omega) (Int.le_refl _) (by rw [hz2]; omega) (by omega)
  rw [h, Int.toNat_natCast, hz1]
  have hr : madeCells (Value.int .i64 0).cells (n * 1) = rowZ [] n := by
    unfold rowZ
    rw [Nat.mul_one]
    unfold madeCells
    apply Array.ext
    · simp [Value.cells]
    · intro i h1 h2; simp [Value.cells, Nat.mod_one]
  rw [hr]
theorem addZ13 (g j : Nat) : (⟨g, 0, none⟩ : Addr).add j = ⟨g, j, none⟩ := by
  unfold Addr.add
  split <;> simp_all
/-- A list of numbers of the call's own is returned. -/
def RetZ (w : World) (zs : List Int) (e : Ending) (w' : World) : Prop := ∃ u, e = .returned u ∧ RdI w' w.heap.size w'.heap.size u zs ∧ Below w.heap.size w w'
theorem rdI_row {w : World} {g L : Nat} {zs : List Int} (h : Own w g 3 (rowZ zs zs.length)) (hg : L ≤ g) (hl : zs.length ≤ 9223372036854775807) : RdI w L w.heap.size (.slice (some ⟨g, 0, none⟩) zs.length zs.length) zs := by
  refine ⟨_, _, rfl, hl, fun k z hk => ⟨⟨g, 0, none⟩, rfl, hg, h.lt, ?_⟩⟩
  rw [addZ13, h.cell k]
  unfold rowZ
  simp [hk]
end Go.Proofs.Yteihjneeiojgaaa
/-
  Rows of numbers of a call's own that grow. Conditions: lengths.
-/
namespace Go.Proofs.Yteihjneeiojgaaa
set_option maxRecDepth 100000
set_option linter.unusedVariables false
set_option linter.unusedSimpArgs false
open Go.RowKit

theorem infoI : (Try.prog.info? 3).map (fun i => (i.zero, i.size, i.bytes)) = some (some (.int .i64 0), 1, 8) := by kernel_rfl
def intsV (zs : List Int) : List Value := zs.map fun z => .int .i64 z
theorem append_i {ops : Array Oper} {rest : List Oper} {o : Oper} {a : Act} {Q : Exit → Act → World → Prop} (W : World) (hgd : o.guard = none) (s x : Operand)
    (ho : o.op = .call { callee := .builtin .append, args := #[s, x], argTypes := #[23, 23] }) (base : Nat) (vb : Value) (zs : List Int) (hs : a.eval s = vb)
    (hown : W.ownsRow base 3 1 vb zs.length (intsV zs)) (h0 c : Nat) (z : Int) (hx : a.eval x = .slice (some ⟨h0, 0, none⟩) 1 c) (hcell : W.cell? ⟨h0, 0, none⟩ = some (.int .i64 z))
    (hl : zs.length ≤ 1099511627776) (hbase : base ≤ W.heap.size)
    (h : ∀ v' w', w'.ownsRow base 3 1 v' (zs ++ [z]).length (intsV (zs ++ [z])) → Below base W w' → wpList Try.prog ops Q rest (a.put o.dst v') w') :
    wpList Try.prog ops Q (o :: rest) a W := by
  obtain ⟨i0, hi, hz0, hz1, hz2⟩ := info_partsB infoI
  refine wpList_append_own W hgd s x 23 ho base 3 i0 (.int .i64 0) 1 8 Try.underlying23 hi hz0 hz1 hz2 rfl (by decide) vb zs.length (intsV zs) hs hown ⟨h0, 0, none⟩ 1 c [.int .i64 z] hx rfl
    ?_ ?_ (by unfold maxLen; omega) (by omega) hbase ?_
  · intro j v hj
    have hj0 : j = 0 := by have := (List.getElem?_eq_some_iff.1 hj).1; simp at this; omega
    subst hj0
    have hv : Value.int .i64 z = v := by simpa using hj
    subst hv
    exact hcell
  · intro v hv
    simp at hv
    subst hv
    rfl
  · intro v' w' h1 h2 _
    exact h v' w' (by unfold intsV; rw [List.length_append, List.map_append]; exact h1) ((Below.refl _ _).grown h2 hbase fun k hk => (hown.lt k hk).1)
theorem rdI_own {w : World} {base : Nat} {v : Value} {zs : List Int} (h : w.ownsRow base 3 1 v zs.length (intsV zs)) (hl : zs.length ≤ 1099511627776) : RdI w 0 w.heap.size v zs := by
  have h2 := h
  obtain ⟨_, ⟨rfl, h0⟩ | ⟨g, c, cs, rfl, hbg, _⟩⟩ := h
  · obtain rfl := List.eq_nil_of_length_eq_zero h0
    exact ⟨none, 0, rfl, by simp, by simp⟩
  · refine ⟨some ⟨g, 0, none⟩, c, rfl, by omega, fun k z hk => ⟨⟨g, 0, none⟩, rfl, Nat.zero_le _, (h2.lt g rfl).2, World.ownsRow.cells h2 rfl k _ (by unfold intsV; rw [List.getElem?_map, hk]; rfl)⟩⟩
end Go.Proofs.Yteihjneeiojgaaa
