import Derived.Test.YtimmfckkgdlokaaGreatDoorMC
import Derived.Sort.Statements
import Derived.Shelf.GgSortFunc.Insertion
import Derived.WalkKit
import Derived.WalkSpells
import Derived.WalkLawsBesides
import Derived.Deep.QuietTactic
import Derived.BigQuiet
import Derived.Handy
import Derived.Lib.Hide
import Derived.Laws.AppendOwnNone
import Derived.Laws.MakeOwn
import Derived.Shelf.SlSortCmp.Whole1
import Derived.Ground.SlsfProg
import Derived.Deep.Slices
import Derived.Test.YtimmfckkgdlokaaGreatDoorMV
import Derived.Lib.Join
/-
  The order of rows is a strict total order (mathematics). Conditions: none.
-/
namespace Go.Proofs.YtimmfckkgdlokaaGreatDoor
set_option maxRecDepth 100000
open Go.RowKit Go.Sort

theorem bl_trans : ∀ x y z : List UInt8, Op.bytesLess x y = true → Op.bytesLess y z = true → Op.bytesLess x z = true
  | [], _, [], _, h2 => by rw [bl_nil] at h2; cases h2
  | [], _, _ :: _, _, _ => rfl
  | _ :: _, [], _, h1, _ => by rw [bl_nil] at h1; cases h1
  | _ :: _, _ :: _, [], _, h2 => by rw [bl_nil] at h2; cases h2
  | a :: x, b :: y, c :: z, h1, h2 => by
    rcases tri a b with h | h | h
    · rcases tri b c with g | g | g
      · exact bl_lt _ _ (by rw [u8_lt] at *; omega)
      · subst g; exact bl_lt _ _ h
      · rw [bl_gt _ _ g] at h2; cases h2
    · subst h
      rcases tri a c with g | g | g
      · exact bl_lt _ _ g
      · subst g
        rw [bl_eq] at *
        exact bl_trans x y z h1 h2
      · rw [bl_gt _ _ g] at h2; cases h2
    · rw [bl_gt _ _ h] at h1; cases h1
theorem lessP_trans (p q r : Vl) (h1 : lessP p q = true) (h2 : lessP q r = true) : lessP p r = true := by
  unfold lessP at *
  simp only [Bool.or_eq_true, Bool.and_eq_true, decide_eq_true_eq] at *
  rcases h1 with h1 | ⟨e1, h1 | ⟨e2, h1⟩⟩
  · rcases h2 with h2 | ⟨f1, _⟩
    · left; omega
    · left; omega
  · rcases h2 with h2 | ⟨f1, h2 | ⟨f2, h2⟩⟩
    · left; omega
    · right; exact ⟨by omega, .inl (by omega)⟩
    · right; exact ⟨by omega, .inl (by omega)⟩
  · rcases h2 with h2 | ⟨f1, h2 | ⟨f2, h2⟩⟩
    · left; omega
    · right; exact ⟨by omega, .inl (by omega)⟩
    · right; exact ⟨by omega, .inr ⟨by omega, bl_trans _ _ _ h1 h2⟩⟩
theorem cmpR_eq : ∀ ps qs : List Vl, cmpR ps qs = 0 ↔ ps = qs
  | [], [] => ⟨fun _ => rfl, fun _ => rfl⟩
  | [], q :: qs => ⟨fun h => (by have h2 : (-1 : Int) = 0 := h; omega), fun h => (by cases h)⟩
  | p :: ps, [] => ⟨fun h => (by have h2 : (1 : Int) = 0 := h; omega), fun h => (by cases h)⟩
  | p :: ps, q :: qs => by
    show (if lessP p q = true then -1 else if p = q then cmpR ps qs else 1) = 0 ↔ _
    by_cases h : lessP p q = true
    · rw [if_pos h]
      refine ⟨fun e => (by omega), fun e => ?_⟩
      injection e with e1 _
      subst e1
      rw [lessP_irr] at h; cases h
    · rw [if_neg h]
      by_cases h2 : p = q
      · rw [if_pos h2, cmpR_eq ps qs, h2]
        exact ⟨fun e => by rw [e], fun e => by injection e⟩
      · rw [if_neg h2]
        refine ⟨fun e => (by omega), fun e => ?_⟩
        injection e with e1 _
        exact absurd e1 h2
theorem cmpR_neg : ∀ ps qs : List Vl, cmpR qs ps = - cmpR ps qs
  | [], [] => rfl
  | [], q :: qs => rfl
  | p :: ps, [] => rfl
  | p :: ps, q :: qs => by
    show (if lessP q p = true then -1 else if q = p then cmpR qs ps else 1) = - (if lessP p q = true then -1 else if p = q then cmpR ps qs else 1)
    by_cases h2 : p = q
    · subst h2
      rw [lessP_irr, if_neg (by decide), if_pos rfl, if_neg (by decide), if_pos rfl]
      exact cmpR_neg ps qs
    · have h3 := lessP_total p q h2
      have h4 : ¬ q = p := fun e => h2 e.symm
      cases hq : lessP q p
      · rw [hq] at h3; simp [h3, h4]
      · rw [hq] at h3; simp [h3, h2]
theorem cmpR_lt_cons (p q : Vl) (ps qs : List Vl) : cmpR (p :: ps) (q :: qs) < 0 ↔ lessP p q = true ∨ (p = q ∧ cmpR ps qs < 0) := by
  show (if lessP p q = true then -1 else if p = q then cmpR ps qs else 1) < 0 ↔ _
  by_cases h : lessP p q = true
  · simp [h]
  · by_cases h2 : p = q
    · subst h2; simp [lessP_irr]
    · simp [h, h2]
theorem cmpR_trans : ∀ a b c : List Vl, cmpR a b < 0 → cmpR b c < 0 → cmpR a c < 0
  | [], [], _, h1, _ => absurd h1 (by decide)
  | [], _ :: _, [], _, h2 => absurd h2 (by show ¬ (1 : Int) < 0; decide)
  | [], _ :: _, _ :: _, _, _ => by show (-1 : Int) < 0; decide
  | _ :: _, [], _, h1, _ => absurd h1 (by show ¬ (1 : Int) < 0; decide)
  | _ :: _, _ :: _, [], _, h2 => absurd h2 (by show ¬ (1 : Int) < 0; decide)
  | p :: a, q :: b, r :: c, h1, h2 => by
    rw [cmpR_lt_cons] at *
    rcases h1 with h1 | ⟨rfl, h1⟩
    · rcases h2 with h2 | ⟨rfl, _⟩
      · exact .inl (lessP_trans _ _ _ h1 h2)
      · exact .inl h1
    · rcases h2 with h2 | ⟨rfl, h2⟩
      · exact .inl h2
      · exact .inr ⟨rfl, cmpR_trans a b c h1 h2⟩
/-- The order of rows, as sorting asks for it. -/
theorem swoR : SWO (fun x y : List Vl => decide (cmpR x y < 0)) where
  irrefl x := by rw [(cmpR_eq x x).2 rfl]; rfl
  trans x y z h1 h2 := by
    simp only [decide_eq_true_eq] at *
    exact cmpR_trans x y z h1 h2
  ntrans x y z h1 h2 := by
    simp only [decide_eq_false_iff_not] at *
    intro h3
    by_cases e : x = y
    · subst e; exact h2 h3
    · have h4 : cmpR y x < 0 := by
        have h5 := cmpR_neg x y
        have h6 : cmpR x y ≠ 0 := fun e2 => e ((cmpR_eq x y).1 e2)
        omega
      exact h2 (cmpR_trans y x z h4 h3)
end Go.Proofs.YtimmfckkgdlokaaGreatDoor
/-
  The order of rows by columns is a strict total order; sorted lists (mathematics). Conditions: none.
-/
namespace Go.Proofs.YtimmfckkgdlokaaGreatDoor
set_option maxRecDepth 100000
open Go.RowKit Go.Sort

/-- The column i of a row: a null if there is none. -/
def atP (ps : List Vl) (i : Int) : Vl := if 0 ≤ i then ps.getD i.toNat zV else zV
theorem cmpP_neg (p q : Vl) : cmpP q p = - cmpP p q := by
  unfold cmpP
  by_cases h2 : p = q
  · subst h2; simp [lessP_irr]
  · have h3 := lessP_total p q h2
    have h4 : ¬ q = p := fun e => h2 e.symm
    cases hq : lessP q p
    · rw [hq] at h3; have h5 : lessP p q = true := by rw [h3]; rfl
      simp [h5, h4]
    · rw [hq] at h3; have h5 : lessP p q = false := by rw [h3]; rfl
      simp [h5, h2]
theorem cmpP_zero (p q : Vl) : cmpP p q = 0 ↔ p = q := by
  unfold cmpP
  by_cases h2 : p = q
  · subst h2; simp [lessP_irr]
  · by_cases h : lessP p q = true <;> simp [h, h2]
theorem cmpP_lt (p q : Vl) : cmpP p q < 0 ↔ lessP p q = true := by
  unfold cmpP
  by_cases h : lessP p q = true
  · simp [h]
  · by_cases h2 : p = q
    · subst h2; simp [lessP_irr]
    · simp [h, h2]
/-- Comparing by one column. -/
def colO (k : Int × Bool) (a b : List Vl) : Int := if k.2 then cmpP (atP b k.1) (atP a k.1) else cmpP (atP a k.1) (atP b k.1)
theorem colO_neg (k : Int × Bool) (a b : List Vl) : colO k b a = - colO k a b := by
  unfold colO
  split <;> exact cmpP_neg _ _
theorem colO_trans (k : Int × Bool) (a b c : List Vl) (h1 : colO k a b < 0) (h2 : colO k b c < 0) : colO k a c < 0 := by
  unfold colO at *
  split at h1
  · next h => rw [if_pos h] at h2 ⊢; rw [cmpP_lt] at *; exact lessP_trans _ _ _ h2 h1
  · next h => rw [if_neg h] at h2 ⊢; rw [cmpP_lt] at *; exact lessP_trans _ _ _ h1 h2
theorem colO_eq_left (k : Int × Bool) (a b c : List Vl) (h : colO k a b = 0) : colO k a c = colO k b c := by
  unfold colO at *
  split at h
  · next h' => rw [cmpP_zero] at h; rw [if_pos h', if_pos h', h]
  · next h' => rw [cmpP_zero] at h; rw [if_neg h', if_neg h', h]
theorem colO_eq_right (k : Int × Bool) (a b c : List Vl) (h : colO k b c = 0) : colO k a b = colO k a c := by
  unfold colO at *
  split at h
  · next h' => rw [cmpP_zero] at h; rw [if_pos h', if_pos h', h]
  · next h' => rw [cmpP_zero] at h; rw [if_neg h', if_neg h', h]
/-- Comparing by columns, then as rows. -/
def cmpO : List (Int × Bool) → List Vl → List Vl → Int
  | [], a, b => cmpR a b
  | k :: t, a, b => if colO k a b = 0 then cmpO t a b else colO k a b
theorem cmpO_neg : ∀ (o : List (Int × Bool)) (a b : List Vl), cmpO o b a = - cmpO o a b
  | [], a, b => cmpR_neg a b
  | k :: t, a, b => by
    show (if colO k b a = 0 then cmpO t b a else colO k b a) = - (if colO k a b = 0 then cmpO t a b else colO k a b)
    rw [colO_neg k a b]
    by_cases h : colO k a b = 0
    · rw [if_pos (by omega), if_pos h, cmpO_neg t a b]
    · rw [if_neg (by omega), if_neg h]
theorem cmpO_eq : ∀ (o : List (Int × Bool)) (a b : List Vl), cmpO o a b = 0 ↔ a = b
  | [], a, b => cmpR_eq a b
  | k :: t, a, b => by
    show (if colO k a b = 0 then cmpO t a b else colO k a b) = 0 ↔ _
    by_cases h : colO k a b = 0
    · rw [if_pos h, cmpO_eq t a b]
    · rw [if_neg h]
      refine ⟨fun h2 => absurd h2 h, fun e => ?_⟩
      subst e
      unfold colO
      split <;> rw [cmpP_zero]
theorem cmpO_trans : ∀ (o : List (Int × Bool)) (a b c : List Vl), cmpO o a b < 0 → cmpO o b c < 0 → cmpO o a c < 0
  | [], a, b, c, h1, h2 => cmpR_trans a b c h1 h2
  | k :: t, a, b, c, h1, h2 => by
    show (if colO k a c = 0 then cmpO t a c else colO k a c) < 0
    change (if colO k a b = 0 then cmpO t a b else colO k a b) < 0 at h1
    change (if colO k b c = 0 then cmpO t b c else colO k b c) < 0 at h2
    by_cases e1 : colO k a b = 0
    · rw [if_pos e1] at h1
      rw [colO_eq_left k a b c e1]
      by_cases e2 : colO k b c = 0
      · rw [if_pos e2] at h2 ⊢; exact cmpO_trans t a b c h1 h2
      · rw [if_neg e2] at h2 ⊢; exact h2
    · rw [if_neg e1] at h1
      by_cases e2 : colO k b c = 0
      · rw [← colO_eq_right k a b c e2, if_neg e1]; exact h1
      · rw [if_neg e2] at h2
        have h3 := colO_trans k a b c h1 h2
        rw [if_neg (by omega)]; exact h3
theorem swoO (o : List (Int × Bool)) : SWO (fun x y : List Vl => decide (cmpO o x y < 0)) where
  irrefl x := by rw [(cmpO_eq o x x).2 rfl]; rfl
  trans x y z h1 h2 := by
    simp only [decide_eq_true_eq] at *
    exact cmpO_trans o x y z h1 h2
  ntrans x y z h1 h2 := by
    simp only [decide_eq_false_iff_not] at *
    intro h3
    by_cases e : x = y
    · subst e; exact h2 h3
    · have h4 : cmpO o y x < 0 := by
        have h5 := cmpO_neg o x y
        have h6 : cmpO o x y ≠ 0 := fun e2 => e ((cmpO_eq o x y).1 e2)
        omega
      exact h2 (cmpO_trans o y x z h4 h3)
/-- Whether a row does not come behind another one. -/
def leO (o : List (Int × Bool)) (a b : List Vl) : Bool := decide (¬ cmpO o b a < 0)
theorem leO_trans (o : List (Int × Bool)) (a b c : List Vl) (h1 : leO o a b = true) (h2 : leO o b c = true) : leO o a c = true := by
  unfold leO at *
  simp only [decide_eq_true_eq] at *
  intro h3
  have h4 := (swoO o).ntrans c b a (by simpa using h2) (by simpa using h1)
  simp only [decide_eq_false_iff_not] at h4
  exact h4 h3
theorem leO_total (o : List (Int × Bool)) (a b : List Vl) : (leO o a b || leO o b a) = true := by
  unfold leO
  simp only [Bool.or_eq_true, decide_eq_true_eq]
  have := cmpO_neg o a b
  omega
theorem leO_anti (o : List (Int × Bool)) (a b : List Vl) (h1 : leO o a b = true) (h2 : leO o b a = true) : a = b := by
  unfold leO at *
  simp only [decide_eq_true_eq] at *
  have := cmpO_neg o a b
  exact (cmpO_eq o a b).1 (by omega)
/-- The list of rows in order. -/
def sortO (o : List (Int × Bool)) (l : List (List Vl)) : List (List Vl) := l.mergeSort (leO o)
theorem sortO_perm (o : List (Int × Bool)) (l : List (List Vl)) : (sortO o l).Perm l := List.mergeSort_perm l _
theorem sortO_pair (o : List (Int × Bool)) (l : List (List Vl)) : (sortO o l).Pairwise (fun a b => leO o a b = true) := List.pairwise_mergeSort (leO_trans o) (leO_total o) l
theorem sortO_len (o : List (Int × Bool)) (l : List (List Vl)) : (sortO o l).length = l.length := (sortO_perm o l).length_eq
/-- A list in order is the list in order. -/
theorem sortO_of (o : List (Int × Bool)) (l D : List (List Vl)) (hp : D.Perm l) (hs : D.Pairwise (fun a b => leO o a b = true)) : D = sortO o l :=
  List.Perm.eq_of_pairwise (fun a b _ _ h1 h2 => leO_anti o a b h1 h2) hs (sortO_pair o l) (hp.trans (sortO_perm o l).symm)
theorem sortO_congr (o : List (Int × Bool)) (l m : List (List Vl)) (h : l.Perm m) : sortO o l = sortO o m :=
  sortO_of o m _ ((sortO_perm o l).trans h) (sortO_pair o l)
/-- The list in order, by halves. -/
theorem sortO_halves (o : List (Int × Bool)) (l : List (List Vl)) (m : Nat) : sortO o l = (sortO o (l.take m)).merge (sortO o (l.drop m)) (leO o) := by
  symm
  refine sortO_of o l _ ?_ (List.pairwise_merge (leO_trans o) (leO_total o) _ _ (sortO_pair o _) (sortO_pair o _))
  refine (List.merge_perm_append _).trans ?_
  have h := (sortO_perm o (l.take m)).append (sortO_perm o (l.drop m))
  rwa [List.take_append_drop] at h
/-- One step of merging. -/
theorem merge_drop_b {A B : List (List Vl)} {o : List (Int × Bool)} (i k : Nat) (b : List Vl) (hb : B[k]? = some b) (h : A.length ≤ i ∨ ∃ a, A[i]? = some a ∧ cmpO o b a < 0) :
    (A.drop i).merge (B.drop k) (leO o) = b :: (A.drop i).merge (B.drop (k + 1)) (leO o) := by
  obtain ⟨hk, rfl⟩ := List.getElem?_eq_some_iff.1 hb
  rw [List.drop_eq_getElem_cons hk]
  rcases h with h | ⟨a, ha, h⟩
  · rw [List.drop_eq_nil_of_le h, List.nil_merge, List.nil_merge]
  · obtain ⟨hi, rfl⟩ := List.getElem?_eq_some_iff.1 ha
    rw [List.drop_eq_getElem_cons hi, List.cons_merge_cons, if_neg (by unfold leO; simpa using h)]
theorem merge_drop_a {A B : List (List Vl)} {o : List (Int × Bool)} (i k : Nat) (a : List Vl) (ha : A[i]? = some a) (h : B.length ≤ k ∨ ∃ b, B[k]? = some b ∧ ¬ cmpO o b a < 0) :
    (A.drop i).merge (B.drop k) (leO o) = a :: (A.drop (i + 1)).merge (B.drop k) (leO o) := by
  obtain ⟨hi, rfl⟩ := List.getElem?_eq_some_iff.1 ha
  rw [List.drop_eq_getElem_cons hi]
  rcases h with h | ⟨b, hb, h⟩
  · rw [List.drop_eq_nil_of_le h, List.merge_right, List.merge_right]
  · obtain ⟨hk, rfl⟩ := List.getElem?_eq_some_iff.1 hb
    rw [List.drop_eq_getElem_cons hk, List.cons_merge_cons, if_pos (by unfold leO; simpa using h)]
end Go.Proofs.YtimmfckkgdlokaaGreatDoor
/-
  Comparing rows, the program's side, with the world that is left said exactly enough for a callback of slices.SortFunc. Conditions: lengths. (Written by mkTuG.py.)
-/
namespace Go.Proofs.YtimmfckkgdlokaaGreatDoor
set_option maxRecDepth 100000
open Go.RowKit

/-- Nothing old is written, and the draws don't go back. -/
def GB (w w' : World) : Prop := Below w.heap.size w w' ∧ w.drawn ≤ w'.drawn
theorem gb_of {w w' : World} (h : Below w.heap.size w w') (hd : w.drawn ≤ w'.drawn) : GB w w' := ⟨h, hd⟩
theorem GB.refl (w : World) : GB w w := ⟨Below.refl _ _, Nat.le_refl _⟩
theorem GB.trans {w a b : World} (h : GB w a) (k : GB a b) : GB w b := ⟨h.1.trans (k.1.mono h.1.size), Nat.le_trans h.2 k.2⟩
theorem GB.grow {w w' : World} (h : GB w w') : ∃ q os, w' = Go.Sort.grow (w.drewN q) os := by
  obtain ⟨hb, hd⟩ := h
  refine ⟨w'.drawn - w.drawn, w'.heap.extract w.heap.size w'.heap.size, ?_⟩
  have h1 : w'.heap = w.heap ++ w'.heap.extract w.heap.size w'.heap.size := by
    have hz := hb.size
    apply Array.ext
    · simp; omega
    · intro i h1 h2
      by_cases hi : i < w.heap.size
      · have h3 := hb.block i hi
        rw [Array.getElem_append_left hi]
        rw [Array.getElem?_eq_getElem h1, Array.getElem?_eq_getElem hi] at h3
        exact Option.some.inj h3
      · rw [Array.getElem_append_right (by omega), Array.getElem_extract]
        congr 1
        omega
  have e1 := hb.os; have e2 := hb.tape; have e3 := hb.output
  cases w' with
  | mk heap' tape' drawn' os' output' =>
    cases w with
    | mk heap tape drawn os output =>
      dsimp only at *
      subst e1 e2 e3
      unfold Go.Sort.grow World.drewN
      dsimp only
      congr 1
      omega
/-- A world behind W in which nothing old is written and the draws don't go back. -/
structure AftD (W : World) where
  w : World
  h : GB W w
instance {W : World} : Nonempty (AftD W) := ⟨⟨W, GB.refl _⟩⟩
instance {W : World} : Inhabited (AftD W) := ⟨⟨W, GB.refl _⟩⟩
theorem aftD_cell {W : World} {a : Addr} {v : Value} (hb : a.block < W.heap.size) (h : W.cell? a = some v) (p : AftD W) : p.w.cell? a = some v := (p.h.1.cell hb).trans h
theorem calls_aftD {P : Program} {f : FuncId} {args : Array Value} {W : World} {p : AftD W} {v : Value} (h : Calls P f args p.w fun e w' => e = .returned v ∧ GB p.w w') :
    Calls P f args p.w fun e w'' => e = .returned v ∧ ∃ q : AftD W, w'' = q.w :=
  h.mono fun _ _ ⟨he, hb⟩ => ⟨he, ⟨_, p.h.trans hb⟩, rfl⟩
theorem wp_region_aftD {P : Program} {id : Nat} {Q : Exit → Act → World → Prop} {a : Act} {w : World} {l : List Oper} (hm : P.follows .mixedOrders = true) (hB : Region.lexB .any l.toArray = true)
    (h : wpQuiet P l.toArray (fun w' => ∃ p : AftD w, w' = p.w) (fun a' => ∀ w', (∃ p : AftD w, w' = p.w) → Q .normal a' w') l a) : (Code.region id l.toArray true).wp P Q a w :=
  wp_region_quiet (C := fun w' => ∃ p : AftD w, w' = p.w) hm hB ⟨⟨w.drew, Below.drew (Below.refl _ _), by simp⟩, rfl⟩ (by simpa using h)
set_option maxRecDepth 100000 in
set_option maxHeartbeats 1600000 in
theorem gCompareV_any (k n : Int) (s : ByteArray) (k2 n2 : Int) (s2 : ByteArray) (w : World) :
    Calls Tryz.prog 36 #[valV (k, n, s), valV (k2, n2, s2)] w fun e w' => e = .returned (.int .i64 (cmpV k n s k2 n2 s2)) ∧ GB w w' := by
  have h1 := fun W => Tryz.cmp_Compare_int k k2 W
  have h2 := fun W => Tryz.cmp_Compare_int n n2 W
  have h3 := fun W => Tryz.strings_Compare s s2 W
  unfold cmpV
  generalize hs : Lib.compareBytes s.data.toList s2.data.toList = c3 at *
  clear hs
  unfold valV
  dsimp only
  unfold Lib.compareInt at h1 h2
  rcases Int.lt_trichotomy k k2 with h | h | h
  · rw [if_pos h]
    rw [if_pos h] at h1
    go_enter Tryz.func36, Tryz.ntmps36
    go_wp2_with (go_at_call 48; with_reducible refine (h1 _).mono ?_; rintro e w1 ⟨rfl, rfl⟩)
    go_ret
    refine ⟨rfl, gb_of ?_ (by first | exact Nat.le_refl _ | (simp; omega))⟩
    (repeat' (first | (with_reducible exact Below.refl _ _) | (with_reducible assumption) | (with_reducible refine Below.alloc ?_ ?_ _) | (with_reducible refine Below.drew ?_) | (with_reducible refine Below.setCell ?_ ?_ _) | (with_reducible refine Below.trans ?_ (Below.mono (by assumption) ?_)) | go_size))
  · subst h
    rw [if_neg (by omega), if_neg (by omega)]
    rw [if_neg (by omega), if_neg (by omega)] at h1
    rcases Int.lt_trichotomy n n2 with h | h | h
    · rw [if_pos h]
      rw [if_pos h] at h2
      go_enter Tryz.func36, Tryz.ntmps36
      go_wp2_with (go_at_call 48; (first | with_reducible refine (h1 _).mono ?_ | with_reducible refine (h2 _).mono ?_); rintro e w1 ⟨rfl, rfl⟩)
      go_ret
      refine ⟨rfl, gb_of ?_ (by first | exact Nat.le_refl _ | (simp; omega))⟩
      (repeat' (first | (with_reducible exact Below.refl _ _) | (with_reducible assumption) | (with_reducible refine Below.alloc ?_ ?_ _) | (with_reducible refine Below.drew ?_) | (with_reducible refine Below.setCell ?_ ?_ _) | (with_reducible refine Below.trans ?_ (Below.mono (by assumption) ?_)) | go_size))
    · subst h
      rw [if_neg (by omega), if_neg (by omega)]
      rw [if_neg (by omega), if_neg (by omega)] at h2
      go_enter Tryz.func36, Tryz.ntmps36
      go_wp2_with (first | (go_at_call 48; (first | with_reducible refine (h1 _).mono ?_ | with_reducible refine (h2 _).mono ?_); rintro e w1 ⟨rfl, rfl⟩) | (go_at_call 49; with_reducible refine (h3 _).mono ?_; rintro e w1 ⟨rfl, rfl⟩))
      go_ret
      refine ⟨rfl, gb_of ?_ (by first | exact Nat.le_refl _ | (simp; omega))⟩
      (repeat' (first | (with_reducible exact Below.refl _ _) | (with_reducible assumption) | (with_reducible refine Below.alloc ?_ ?_ _) | (with_reducible refine Below.drew ?_) | (with_reducible refine Below.setCell ?_ ?_ _) | (with_reducible refine Below.trans ?_ (Below.mono (by assumption) ?_)) | go_size))
    · rw [if_neg (by omega), if_pos h]
      rw [if_neg (by omega), if_pos h] at h2
      go_enter Tryz.func36, Tryz.ntmps36
      go_wp2_with (go_at_call 48; (first | with_reducible refine (h1 _).mono ?_ | with_reducible refine (h2 _).mono ?_); rintro e w1 ⟨rfl, rfl⟩)
      go_ret
      refine ⟨rfl, gb_of ?_ (by first | exact Nat.le_refl _ | (simp; omega))⟩
      (repeat' (first | (with_reducible exact Below.refl _ _) | (with_reducible assumption) | (with_reducible refine Below.alloc ?_ ?_ _) | (with_reducible refine Below.drew ?_) | (with_reducible refine Below.setCell ?_ ?_ _) | (with_reducible refine Below.trans ?_ (Below.mono (by assumption) ?_)) | go_size))
  · rw [if_neg (by omega), if_pos h]
    rw [if_neg (by omega), if_pos h] at h1
    go_enter Tryz.func36, Tryz.ntmps36
    go_wp2_with (go_at_call 48; with_reducible refine (h1 _).mono ?_; rintro e w1 ⟨rfl, rfl⟩)
    go_ret
    refine ⟨rfl, gb_of ?_ (by first | exact Nat.le_refl _ | (simp; omega))⟩
    (repeat' (first | (with_reducible exact Below.refl _ _) | (with_reducible assumption) | (with_reducible refine Below.alloc ?_ ?_ _) | (with_reducible refine Below.drew ?_) | (with_reducible refine Below.setCell ?_ ?_ _) | (with_reducible refine Below.trans ?_ (Below.mono (by assumption) ?_)) | go_size))
theorem gCmp_any (p q : Vl) (w : World) :
    Calls Tryz.prog 36 #[valV p, valV q] w fun e w' => e = .returned (.int .i64 (cmpP p q)) ∧ GB w w' := by
  obtain ⟨k, n, s⟩ := p; obtain ⟨k2, n2, s2⟩ := q
  rw [← cmpV_P]; exact gCompareV_any k n s k2 n2 s2 w
set_option maxRecDepth 100000 in
set_option maxHeartbeats 6400000 in
theorem gCompareFunc_any (u v : Value) (ps qs : List Vl) (w : World) (L L2 : Nat) (hu : RdV w L w.heap.size u ps) (hv : RdV w L2 w.heap.size v qs) :
    Calls Tryz.prog 35 #[u, v, .func (.func 36) #[] #[]] w fun e w' => e = .returned (.int .i64 (cmpR ps qs)) ∧ GB w w' := by
  obtain ⟨A, c, rfl, hl1, hc1⟩ := hu
  obtain ⟨A2, c2, rfl, hl2, hc2⟩ := hv
  have HC := Lib.hid hc1
  have HC2 := Lib.hid hc2
  clear hc1 hc2
  go_enter Tryz.func35, Tryz.ntmps35
  go_wp2
  go_loopw [13] (fun i wr => ∃ k : Nat, k ≤ ps.length ∧ k ≤ qs.length ∧ i = .int .i64 k ∧ Hid (cmpR ps qs = cmpR (ps.drop k) (qs.drop k)) ∧ Below w.heap.size w wr ∧ w.drawn ≤ wr.drawn) (fun i _ => ps.length - (intOf i).toNat)
  case atStart => exact ⟨0, Nat.zero_le _, Nat.zero_le _, rfl, Lib.hid rfl, Below.refl _ _, Nat.le_refl _⟩
  case round =>
    obtain ⟨k, hk, hk2, rfl, HR, hbr, hdr⟩ := hrel
    have hbz := hbr.size
    by_cases hlt : k < ps.length
    · have hki : (k : Int) < ps.length := by omega
      obtain ⟨ad, rfl, _, hab, c0, c1, c2⟩ := HC.out k _ (List.getElem?_eq_getElem hlt)
      have d0 := (hbr.cell (p := ad.add (k * 3)) (by rw [add_block]; exact hab)).trans c0
      have d1 := (hbr.cell (p := ⟨(ad.add (k * 3)).block, (ad.add (k * 3)).off + 1, none⟩) (by show (ad.add (k * 3)).block < _; rw [add_block]; exact hab)).trans c1
      have d2 := (hbr.cell (p := ⟨(ad.add (k * 3)).block, (ad.add (k * 3)).off + 2, none⟩) (by show (ad.add (k * 3)).block < _; rw [add_block]; exact hab)).trans c2
      by_cases hlt2 : k < qs.length
      · have hki2 : (k : Int) < qs.length := by omega
        have hge : ¬ (k : Int) ≥ qs.length := by omega
        obtain ⟨ad2, rfl, _, hab2, b0, b1, b2⟩ := HC2.out k _ (List.getElem?_eq_getElem hlt2)
        have f0 := (hbr.cell (p := ad2.add (k * 3)) (by rw [add_block]; exact hab2)).trans b0
        have f1 := (hbr.cell (p := ⟨(ad2.add (k * 3)).block, (ad2.add (k * 3)).off + 1, none⟩) (by show (ad2.add (k * 3)).block < _; rw [add_block]; exact hab2)).trans b1
        have f2 := (hbr.cell (p := ⟨(ad2.add (k * 3)).block, (ad2.add (k * 3)).off + 2, none⟩) (by show (ad2.add (k * 3)).block < _; rw [add_block]; exact hab2)).trans b2
        have hcd := cmpQ_drop ps qs k _ _ (List.getElem?_eq_getElem hlt) (List.getElem?_eq_getElem hlt2)
        rw [← HR.out] at hcd
        have hcc := fun W => gCmp_any ps[k] qs[k] W
        have hi := cmpP_i64 ps[k] qs[k]
        generalize cmpP ps[k] qs[k] = d at *
        generalize ps[k] = p at *
        generalize qs[k] = q at *
        obtain ⟨kd, n, s⟩ := p
        obtain ⟨kd2, n2, s2⟩ := q
        unfold valV at hcc
        dsimp only at d0 d1 d2 f0 f1 f2 hcc
        have hd : Below wr.heap.size wr ((wr.alloc (.cells #[.int .i64 kd, .int .i64 n, .string s] 28)).alloc (.cells #[.int .i64 kd2, .int .i64 n2, .string s2] 28)) := (bel_mark wr _).trans ((bel_mark _ _).mono (bel_mark wr _).size)
        have hBB := Lib.hid (hbr.trans (hd.mono hbz))
        have hdz := Nat.le_trans hbz hd.size
        have HCC := Lib.hid hcc
        have f0 := ((bel_mark wr (.cells #[.int .i64 kd, .int .i64 n, .string s] 28)).cell (p := ad2.add (k * 3)) (by rw [add_block]; omega)).trans f0
        have f1 := ((bel_mark wr (.cells #[.int .i64 kd, .int .i64 n, .string s] 28)).cell (p := ⟨(ad2.add (k * 3)).block, (ad2.add (k * 3)).off + 1, none⟩) (by show (ad2.add (k * 3)).block < _; rw [add_block]; omega)).trans f1
        have f2 := ((bel_mark wr (.cells #[.int .i64 kd, .int .i64 n, .string s] 28)).cell (p := ⟨(ad2.add (k * 3)).block, (ad2.add (k * 3)).off + 2, none⟩) (by show (ad2.add (k * 3)).block < _; rw [add_block]; omega)).trans f2
        clear c0 c1 c2 b0 b1 b2 hcc hd
        rcases hi with rfl | rfl | rfl
        · have HF := Lib.hid (hcd.trans (if_neg (by decide)))
          clear hcd
          go_wp2_with fail
          with_reducible refine (HCC.out _).mono ?_
          rintro e w1 ⟨rfl, hb1, hd1⟩
          go_wp2
          go_ret
          exact ⟨by rw [HF.out]; rfl, gb_of (hBB.out.trans (hb1.mono hdz)) (Nat.le_trans hdr hd1)⟩
        · have HF := Lib.hid (hcd.trans (if_pos rfl))
          clear hcd
          go_wp2_with fail
          with_reducible refine (HCC.out _).mono ?_
          rintro e w1 ⟨rfl, hb1, hd1⟩
          go_wp2
          go_round
          case rel => exact ⟨k + 1, by omega, by omega, by go_num, HF, hBB.out.trans (hb1.mono hdz), Nat.le_trans hdr hd1⟩
          case measure => simp [intOf]; omega
        · have HF := Lib.hid (hcd.trans (if_neg (by decide)))
          clear hcd
          go_wp2_with fail
          with_reducible refine (HCC.out _).mono ?_
          rintro e w1 ⟨rfl, hb1, hd1⟩
          go_wp2
          go_ret
          exact ⟨by rw [HF.out]; rfl, gb_of (hBB.out.trans (hb1.mono hdz)) (Nat.le_trans hdr hd1)⟩
      · have hge : (k : Int) ≥ qs.length := by omega
        have hce := cmpQ_end ps qs k (fun h => hlt2 h.2)
        rw [← HR.out] at hce
        have HF := Lib.hid ((hce.trans (if_neg hlt2)).trans (if_pos hlt))
        generalize ps[k] = p at *
        obtain ⟨kd, n, s⟩ := p
        dsimp only at d0 d1 d2
        clear c0 c1 c2 hce hlt2
        go_wp2
        go_ret
        exact ⟨by rw [HF.out]; rfl, gb_of (hbr.trans ((bel_mark wr _).mono hbz)) hdr⟩
    · have hki : ¬ (k : Int) < ps.length := by omega
      have hce := cmpQ_end ps qs k (fun h => hlt h.1)
      rw [← HR.out] at hce
      by_cases h1 : k < qs.length
      · have HF := Lib.hid (hce.trans (if_pos h1))
        have t2 : (ps.length : Int) < qs.length := by omega
        clear hce
        go_wp2
        go_ret
        exact ⟨by rw [HF.out]; rfl, gb_of hbr hdr⟩
      · have HF := Lib.hid ((hce.trans (if_neg h1)).trans (if_neg hlt))
        have t2 : ¬ (ps.length : Int) < qs.length := by omega
        clear hce
        go_wp2
        go_ret
        exact ⟨by rw [HF.out]; rfl, gb_of hbr hdr⟩
set_option maxHeartbeats 800000 in
theorem gCompare_any (u v : Value) (ps qs : List Vl) (w : World) (L L2 : Nat) (hu : RdV w L w.heap.size u ps) (hv : RdV w L2 w.heap.size v qs) :
    Calls Tryz.prog 22 #[u, v] w fun e w' => e = .returned (.int .i64 (cmpR ps qs)) ∧ GB w w' := by
  have H := Lib.hid (gCompareFunc_any u v ps qs w L L2 hu hv)
  obtain ⟨A, c, rfl, _⟩ := hu
  obtain ⟨A2, c2, rfl, _⟩ := hv
  go_enter Tryz.func22, Tryz.ntmps22
  go_wp2_with fail
  with_reducible refine H.out.mono ?_
  rintro e w1 ⟨rfl, hb⟩
  go_wp2
  go_ret
  exact ⟨rfl, hb⟩
end Go.Proofs.YtimmfckkgdlokaaGreatDoor
/-
  Lists of rows as they are read; slices.Clone of values; rows of slices that are made. Conditions: lengths. (Written by mkTuR.py.)
-/
namespace Go.Proofs.YtimmfckkgdlokaaGreatDoor
set_option maxRecDepth 100000
open Go.RowKit

theorem addB1 (ad : Addr) : ad.add 1 = ⟨ad.block, ad.off + 1, none⟩ := by unfold Addr.add; simp
theorem addB2 (ad : Addr) : ad.add 2 = ⟨ad.block, ad.off + 2, none⟩ := by unfold Addr.add; simp
theorem flat_of_rdV {w : World} {L B : Nat} {ad : Addr} {n c : Nat} {m : List Vl} (h : RdV w L B (.slice (some ad) n c) m) : ∀ (j : Nat) u, (flatV m)[j]? = some u → w.cell? (ad.add j) = some u := by
  intro j u hu
  obtain ⟨A, c', hv, _, hc⟩ := h
  injection hv with e1 _ _
  subst e1
  have hj : j < m.length * 3 := by rw [← flatV_len]; exact (List.getElem?_eq_some_iff.1 hu).1
  have hk : j / 3 < m.length := by omega
  obtain ⟨ad2, e2, _, _, g0, g1, g2⟩ := hc (j / 3) _ (List.getElem?_eq_getElem hk)
  injection e2 with e2
  subst e2
  obtain ⟨f0, f1, f2⟩ := flatV_get m (j / 3) _ (List.getElem?_eq_getElem hk)
  have h3 : j = j / 3 * 3 ∨ j = j / 3 * 3 + 1 ∨ j = j / 3 * 3 + 2 := by omega
  generalize j / 3 = k at *
  rcases h3 with rfl | rfl | rfl
  · rw [f0] at hu; rw [← hu]; exact g0
  · rw [f1] at hu; rw [← hu, ← add_add ad (k * 3) 1, addB1 (ad.add (k * 3))]; exact g1
  · rw [f2] at hu; rw [← hu, ← add_add ad (k * 3) 2, addB2 (ad.add (k * 3))]; exact g2
theorem append_vx {ops : Array Oper} {rest : List Oper} {o : Oper} {a : Act} {Q : Exit → Act → World → Prop} (W : World) (hw : Region.wanted o (yielded ops a.tmps) = true) (s x : Operand)
    (ho : o.op = .call { callee := .builtin .append, args := #[s, x], argTypes := #[32, 32] }) (base : Nat) (v : Value) (l : List Vl) (hs : a.eval s = v)
    (hown : W.ownsRow base 28 3 v l.length (flatV l)) (u : Value) (m : List Vl) (L B : Nat) (hx : a.eval x = u) (hr : RdV W L B u m) (hun : ∀ n c, u = .slice none n c → c = 0) (hl : l.length + m.length ≤ 2199023255552) (hbase : base ≤ W.heap.size)
    (h : ∀ v' w', w'.ownsRow base 28 3 v' (l ++ m).length (flatV (l ++ m)) → Below base W w' → wpList Tryz.prog ops Q rest (a.put o.dst v') w') :
    wpList Tryz.prog ops Q (o :: rest) a W := by
  have hr0 := hr
  obtain ⟨A, c, rfl, _, hc⟩ := hr
  obtain ⟨i0, hi, hz0, hz1, hz2⟩ := info_partsB infoV
  unfold wpList
  rw [if_pos hw]
  refine Or.inl ?_
  cases A with
  | none =>
    have hm0 : m = [] := by
      cases m with
      | nil => rfl
      | cons b t => obtain ⟨ad, h1, _⟩ := hc 0 _ rfl; cases h1
    subst hm0
    obtain rfl := hun _ _ rfl
    have hrun := run_append_owned_none (P := Tryz.prog) (w := W) base 32 o.type 28 i0 3 Tryz.underlying32 hi v _ _ hown
    unfold Oper.wp
    simp [execOp, ho, resolve, invoke, builtin, hs, hx, hrun, Result.andThen]
    exact h v W (by rw [List.append_nil]; exact hown) (Below.refl _ _)
  | some ad =>
    refine wp_append_own W s x 32 ho base 28 i0 (.agg #[.int .i64 0, .int .i64 0, .string ⟨#[]⟩]) 3 32 Tryz.underlying32 hi hz0 hz1 hz2 rfl (by decide) v l.length (flatV l) hs hown ad m.length c (flatV m) hx (by rw [flatV_len])
      (flat_of_rdV hr0) (fun u hu => ?_) (by unfold maxLen; omega) (by omega) hbase ?_
    · have hall : ∀ ps : List Vl, ∀ u ∈ flatV ps, u.oneCell' = true := by
        intro ps
        induction ps with
        | nil => intro u hu; cases hu
        | cons p t ih =>
          intro u hu
          have hu2 : u ∈ (.int .i64 p.1 :: .int .i64 p.2.1 :: .string p.2.2 :: flatV t : List Value) := hu
          simp only [List.mem_cons] at hu2
          rcases hu2 with rfl | rfl | rfl | hu2
          · rfl
          · rfl
          · rfl
          · exact ih u hu2
      exact hall m u hu
    · intro v' w' h1 h2 _
      exact h v' w' (by rw [flatV_append, List.length_append]; exact h1) ((Below.refl _ _).grown h2 hbase fun k hk => (hown.lt k hk).1)
theorem own_litV (w : World) : (w.alloc (.cells #[] 28)).ownsRow w.heap.size 28 3 (.slice (some ⟨w.heap.size, 0, none⟩) 0 0) ([] : List Vl).length (flatV []) :=
  ⟨rfl, .inr ⟨w.heap.size, 0, #[], rfl, Nat.le_refl _, heap_alloc_new w _, Nat.le_refl _, Nat.zero_le _, rfl, rfl⟩⟩

theorem RdV.unnil {w : World} {L B : Nat} {u : Value} {p : List Vl} (_ : RdV w L B u p) {g n c : Nat} (h : u = .slice (some ⟨g, 0, none⟩) n c) : ∀ n c, u = .slice none n c → c = 0 := by
  subst h; intro n c e; cases e
/-- The slice u holds the values p, and is nil only without room. -/
def RdN (w : World) (L B : Nat) (u : Value) (p : List Vl) : Prop := RdV w L B u p ∧ ∀ n c, u = .slice none n c → c = 0
theorem RdN.below {w w' : World} {L B : Nat} {u : Value} {p : List Vl} (h : RdN w L B u p) (hb : Below B w w') : RdN w' L B u p := ⟨h.1.below hb, h.2⟩
theorem RdN.more {w : World} {L B B' : Nat} {u : Value} {p : List Vl} (h : RdN w L B u p) (hB : B ≤ B') : RdN w L B' u p := ⟨h.1.more hB (Nat.le_refl _), h.2⟩
theorem RdN.step {w w' : World} {L B : Nat} {u : Value} {p : List Vl} (h : RdN w L B u p) (hb : Below w.heap.size w w') (hB : B ≤ w.heap.size) : RdN w' L w'.heap.size u p := ⟨h.1.step hb hB, h.2⟩
theorem RdV.low {w : World} {L L' B : Nat} {u : Value} {p : List Vl} (h : RdV w L B u p) (hL : L' ≤ L) : RdV w L' B u p := by
  obtain ⟨A, c, hv, hl, hc⟩ := h
  exact ⟨A, c, hv, hl, fun k n hk => let ⟨ad, h1, h0, h2⟩ := hc k n hk; ⟨ad, h1, Nat.le_trans hL h0, h2⟩⟩
theorem RdN.low {w : World} {L L' B : Nat} {u : Value} {p : List Vl} (h : RdN w L B u p) (hL : L' ≤ L) : RdN w L' B u p := ⟨h.1.low hL, h.2⟩
theorem rdN_nil (w : World) (L B : Nat) : RdN w L B (.slice none 0 0) [] := ⟨rdV_nil w L B, fun n c e => by injection e with _ _ e3; exact e3.symm⟩
theorem RdN.of_own {w : World} {base : Nat} {v : Value} {ps : List Vl} (h : w.ownsRow base 28 3 v ps.length (flatV ps)) (hl : ps.length ≤ 9223372036854775807) : RdN w base w.heap.size v ps := by
  refine ⟨RdV.of_own h hl, ?_⟩
  obtain ⟨_, h | ⟨g, c, cs, rfl, _⟩⟩ := h
  · obtain ⟨rfl, _⟩ := h; intro n c e; injection e with _ _ e3; exact e3.symm
  · intro n c e; cases e
/-- A change that leaves all blocks but g as they were leaves what is read beside g. -/
theorem RdN.grown {w w' : World} {g B : Nat} {L : Nat} {u : Value} {p : List Vl} (h : RdN w L B u p) (hg : w.grownBy w' (some g)) (hL : g < L) (hB : B ≤ w.heap.size) : RdN w' L w'.heap.size u p := by
  obtain ⟨⟨A, c, hv, hl, hc⟩, h2⟩ := h
  have hz := hg.size
  refine ⟨⟨A, c, hv, hl, fun k n hk => ?_⟩, h2⟩
  obtain ⟨ad, h1, h0, h3, c0, c1, c2⟩ := hc k n hk
  have hne : ∀ a : Addr, a.block = ad.block → w'.cell? a = w.cell? a := fun a ha => World.grownBy.cell_far hg a (by omega) (by rw [ha]; intro e; injection e with e; omega)
  exact ⟨ad, h1, h0, by omega, (hne _ (by rw [add_block])).trans c0, (hne _ (by show (ad.add (k * 3)).block = _; rw [add_block])).trans c1, (hne _ (by show (ad.add (k * 3)).block = _; rw [add_block])).trans c2⟩
/-- The slice v holds slices that hold the rows rs. -/
def RdR (w : World) (L B : Nat) (v : Value) (rs : List (List Vl)) : Prop :=
  ∃ A c, v = .slice A rs.length c ∧ rs.length ≤ 9223372036854775807 ∧ ∀ (k : Nat) (r : List Vl), rs[k]? = some r → ∃ (ad : Addr) (u : Value), A = some ad ∧ L ≤ ad.block ∧ ad.block < B ∧ w.cell? (ad.add k) = some u ∧ RdN w 0 B u r
theorem RdR.below {w w' : World} {L B : Nat} {v : Value} {rs : List (List Vl)} (h : RdR w L B v rs) (hb : Below B w w') : RdR w' L B v rs := by
  obtain ⟨A, c, hv, hl, hc⟩ := h
  exact ⟨A, c, hv, hl, fun k n hk => let ⟨ad, u, h1, h0, h2, h3, h4⟩ := hc k n hk; ⟨ad, u, h1, h0, h2, (hb.cell (p := ad.add k) (by rw [add_block]; exact h2)).trans h3, h4.below hb⟩⟩
theorem RdR.more {w : World} {L B B' : Nat} {v : Value} {rs : List (List Vl)} (h : RdR w L B v rs) (hB : B ≤ B') : RdR w L B' v rs := by
  obtain ⟨A, c, hv, hl, hc⟩ := h
  exact ⟨A, c, hv, hl, fun k n hk => let ⟨ad, u, h1, h0, h2, h3, h4⟩ := hc k n hk; ⟨ad, u, h1, h0, Nat.lt_of_lt_of_le h2 hB, h3, h4.more hB⟩⟩
theorem RdR.low {w : World} {L L' B : Nat} {v : Value} {rs : List (List Vl)} (h : RdR w L B v rs) (hL : L' ≤ L) : RdR w L' B v rs := by
  obtain ⟨A, c, hv, hl, hc⟩ := h
  exact ⟨A, c, hv, hl, fun k n hk => let ⟨ad, u, h1, h0, h2⟩ := hc k n hk; ⟨ad, u, h1, Nat.le_trans hL h0, h2⟩⟩
theorem RdR.step {w w' : World} {L B : Nat} {v : Value} {rs : List (List Vl)} (h : RdR w L B v rs) (hb : Below w.heap.size w w') (hB : B ≤ w.heap.size) : RdR w' L w'.heap.size v rs :=
  ((h.more hB).below hb).more hb.size
/-- A row of the call's own that holds p is returned. -/
def RetC (w : World) (p : List Vl) (e : Ending) (w' : World) : Prop := ∃ u', e = .returned u' ∧ RdN w' w.heap.size w'.heap.size u' p ∧ Below w.heap.size w w'
set_option maxRecDepth 100000 in
set_option maxHeartbeats 1600000 in
theorem clone_any (u : Value) (p : List Vl) (w : World) (L : Nat) (hu : RdN w L w.heap.size u p) (hlen : p.length ≤ 2199023255552) :
    Calls Tryz.prog 33 #[u] w (RetC w p) := by
  obtain ⟨h0, hun⟩ := hu
  have hr0 := h0
  obtain ⟨A, c, rfl, hl1, hc1⟩ := h0
  cases A with
  | none =>
    obtain rfl := hun _ _ rfl
    have hp : p = [] := by
      cases p with
      | nil => rfl
      | cons x t => obtain ⟨ad, h1, _⟩ := hc1 0 x rfl; cases h1
    subst hp
    clear hc1 hr0 hun
    have q0 := fun W : World => run_eql_nil_slice (P := Tryz.prog) W 32 28 none 0 0 0 0 Tryz.underlying32
    go_enter Tryz.func33, Tryz.ntmps33
    go_wp2
    go_ret
    exact ⟨_, rfl, rdN_nil _ _ _, Below.refl _ _⟩
  | some ad =>
    have RU := Lib.hid (hr0.step (bel_mark w (.cells #[] 28)) (Nat.le_refl _))
    have HUN := Lib.hid hun
    have O7 := Lib.hid (own_litV w)
    have B0 := Lib.hid (bel_mark w (.cells #[] 28))
    have z7 : w.heap.size ≤ (w.alloc (.cells #[] 28)).heap.size := B0.out.size
    clear hc1 hr0 hun
    have q0 := fun W : World => Lib.run_eql_slice_nil (P := Tryz.prog) W 32 28 (some ad) p.length c 0 0 Tryz.underlying32
    go_enter Tryz.func33, Tryz.ntmps33
    go_wp2_with (at_builtin; refine append_vx _ (by rfl) _ _ rfl w.heap.size _ [] rfl O7.out _ p _ _ rfl RU.out HUN.out (by simp; omega) z7 ?_; intro v8 w8 ho8 hb8; rw [List.nil_append] at ho8; have O8 := Lib.hid ho8; have HB8 := Lib.hid (B0.out.trans hb8); clear ho8)
    go_ret
    exact ⟨_, rfl, RdN.of_own O8.out (by omega), HB8.out⟩
theorem made_nth (z : Value) (n : Nat) (hz : z.cells = #[z]) : madeCells z.cells n = (List.replicate n z).toArray := by
  unfold madeCells
  rw [hz]
  apply Array.ext
  · simp
  · intro i h1 h2; simp [Nat.mod_one]
/-- The cells of a row of n slices of which those of us are set. -/
def rowH (us : List Value) (n : Nat) : Array Value := (us ++ List.replicate (n - us.length) (Value.slice none 0 0)).toArray
theorem rowH_next (us : List Value) (n : Nat) (h : us.length < n) : (rowH us n)[us.length]? = some (Value.slice none 0 0) := by
  unfold rowH
  simp only [List.getElem?_toArray]
  rw [List.getElem?_append_right (Nat.le_refl _), Nat.sub_self, List.getElem?_replicate, if_pos (by omega)]
theorem rowH_set (us : List Value) (n : Nat) (u : Value) (h : us.length < n) : (rowH us n).setIfInBounds us.length u = rowH (us ++ [u]) n := by
  unfold rowH
  rw [List.setIfInBounds_toArray]
  congr 1
  rw [List.set_append_right _ _ (Nat.le_refl _), Nat.sub_self, show n - us.length = (n - (us ++ [u]).length) + 1 by rw [List.length_append]; simp; omega]
  simp [List.replicate_succ]
theorem infoR : (Tryz.prog.info? 32).map (fun i => (i.zero, i.size, i.bytes)) = some (some (.slice none 0 0), 1, 24) := by kernel_rfl
theorem made_rowH (W : World) (g : Nat) (hg : g = W.heap.size) (n : Nat) (hn : n ≤ 1099511627776) (N : Int) (hN : N = (n : Nat)) :
    (Instr.makeSlice 22 (.int .i64 N) (.int .i64 N)).run Tryz.prog W = .ok (.slice (some ⟨g, 0, none⟩) n n) (W.alloc (.cells (rowH [] n) 32)) := by
  subst hg hN
  obtain ⟨i0, hi, hz0, hz1, hz2⟩ := info_partsB infoR
  have h := run_make (P := Tryz.prog) (w := W) 22 32 i0 (.slice none 0 0) Tryz.underlying22 hi hz0 .i64 .i64 (n : Int) (n : Int) (by omega) (Int.le_refl _) (by rw [hz2]; omega) (by omega)
  rw [h, Int.toNat_natCast, hz1]
  have hr : madeCells (Value.slice none 0 0).cells (n * 1) = rowH [] n := by
    rw [made_nth _ _ rfl]
    unfold rowH
    simp
  rw [hr]
end Go.Proofs.YtimmfckkgdlokaaGreatDoor
/-
  tuple.sorted: a copy of a list of rows, in order. Conditions: lengths; what is asked of the comparing function.
-/
namespace Go.Proofs.YtimmfckkgdlokaaGreatDoor
set_option maxRecDepth 100000
open Go.RowKit Go.Sort Go.Shelf

theorem size_sortWorld1 {α : Type} [Inhabited α] (enc : α → Value) (w : World) (blk off n : Nat) (d : Array α) (os : Array Obj) : w.heap.size ≤ (sortWorld enc w blk off n d os).heap.size := by
  unfold sortWorld grow putRow mapBlock Sort.ahead
  simp
theorem below_sortWorld1 {α : Type} [Inhabited α] (enc : α → Value) (w : World) (blk off n : Nat) (d : Array α) (os : Array Obj) (hblk : blk < w.heap.size) : Below blk w (sortWorld enc w blk off n d os) := by
  refine ⟨rfl, rfl, rfl, size_sortWorld1 enc w blk off n d os, fun j hj => ?_⟩
  unfold sortWorld putRow mapBlock grow Sort.ahead
  show (w.heap.modify blk _ ++ os)[j]? = _
  rw [Array.getElem?_append_left (by rw [Array.size_modify]; omega), Array.getElem?_modify, if_neg (by omega)]
theorem grown_sortWorld1 {α : Type} [Inhabited α] (enc : α → Value) (w : World) (blk off n : Nat) (d : Array α) (os : Array Obj) : w.grownBy (sortWorld enc w blk off n d os) (some blk) := by
  refine ⟨rfl, rfl, rfl, size_sortWorld1 enc w blk off n d os, fun j hj hne => ?_⟩
  have hne2 : blk ≠ j := fun e => hne (by rw [e])
  unfold sortWorld putRow mapBlock grow Sort.ahead
  show (w.heap.modify blk _ ++ os)[j]? = _
  rw [Array.getElem?_append_left (by rw [Array.size_modify]; omega), Array.getElem?_modify, if_neg hne2]
/-- Rows that can be read beside the block g. -/
def Rw (w : World) (g : Nat) : Type := { p : Value × List Vl // RdN w (g + 1) w.heap.size p.1 p.2 }
instance {w : World} {g : Nat} : Inhabited (Rw w g) := ⟨⟨(.slice none 0 0, []), rdN_nil _ _ _⟩⟩
def Rw.val {w : World} {g : Nat} (x : Rw w g) : Value := x.1.1
def Rw.row {w : World} {g : Nat} (x : Rw w g) : List Vl := x.1.2
/-- What is asked of the function that compares rows: it answers as cf, in every world behind w. -/
def Asks (f : FuncId) (cb : Array Value) (cf : List Vl → List Vl → Int) (w : World) : Prop :=
  (∀ args W, (callFunc f args).run Tryz.prog W = .ok (.enter f args) W) ∧
  ∀ (W : World) (x y : Value) (p q : List Vl), Below w.heap.size w W → RdN W 0 W.heap.size x p → RdN W 0 W.heap.size y q →
    Calls Tryz.prog f (#[x, y] ++ cb) W fun e w' => e = .returned (.int .i64 (cf p q)) ∧ GB W w'
theorem Asks.step {f : FuncId} {cb : Array Value} {cf : List Vl → List Vl → Int} {w w' : World} (h : Asks f cb cf w) (hb : Below w.heap.size w w') : Asks f cb cf w' :=
  ⟨h.1, fun W x y p q hW hx hy => h.2 W x y p q (hb.trans (hW.mono hb.size)) hx hy⟩
theorem ltO (o : List (Int × Bool)) {w : World} {g : Nat} (x y : Rw w g) : ltOf (fun x y : Rw w g => cmpO o x.row y.row) x y = decide (cmpO o x.row y.row < 0) := rfl
theorem swoW (o : List (Int × Bool)) (w : World) (g : Nat) : SWO (ltOf (fun x y : Rw w g => cmpO o x.row y.row)) where
  irrefl x := by rw [ltO]; exact (swoO o).irrefl x.row
  trans x y z h1 h2 := by rw [ltO] at *; exact (swoO o).trans x.row y.row z.row h1 h2
  ntrans x y z h1 h2 := by rw [ltO] at *; exact (swoO o).ntrans x.row y.row z.row h1 h2
theorem sortL : SlLaysF.n6 Tryz.prog Tryz.sortR_ren := Tryz.sortR
/-- A list of rows of the call's own is returned. -/
def RetR (w : World) (rs : List (List Vl)) (e : Ending) (w' : World) : Prop := ∃ u, e = .returned u ∧ RdR w' w.heap.size w'.heap.size u rs ∧ (∀ n c, u = .slice none n c → c = 0) ∧ Below w.heap.size w w'
/-- Sorting a row of slices. -/
theorem sortFunc_any (f : FuncId) (cb : Array Value) (o : List (Int × Bool)) (w : World) (g : Nat) (us : List Value) (rs : List (List Vl)) (hl : us.length = rs.length) (hlen : rs.length ≤ 1099511627776)
    (hown : Own w g 32 (rowH us us.length)) (hu : ∀ (k : Nat) (u : Value) (r : List Vl), us[k]? = some u → rs[k]? = some r → RdN w (g + 1) w.heap.size u r) (base : Nat) (hbg : base ≤ g) (w0 : World) (hB : Below base w0 w) (hb0 : base = w0.heap.size) (hA : Asks f cb (cmpO o) w0) :
    Calls Tryz.prog 34 #[.slice (some ⟨g, 0, none⟩) us.length us.length, .func (.func f) #[] cb] w fun e w' => e = .returned (.tuple #[]) ∧ RdR w' base w'.heap.size (.slice (some ⟨g, 0, none⟩) us.length us.length) (sortO o rs) ∧ Below base w0 w' := by
  have each : ∀ k, k < us.length → ∃ x : Rw w g, us[k]? = some x.val ∧ rs[k]? = some x.row := fun k hk =>
    ⟨⟨(us[k], rs[k]), hu k _ _ (List.getElem?_eq_getElem hk) (List.getElem?_eq_getElem (hl ▸ hk))⟩, List.getElem?_eq_getElem hk, List.getElem?_eq_getElem (hl ▸ hk)⟩
  obtain ⟨q, hq⟩ := Go.Deep.choose_lt each
  obtain ⟨d, hds, hget⟩ : ∃ d : Array (Rw w g), d.size = us.length ∧ ∀ k (hk : k < us.length), (d[k]!).val = us[k] ∧ (d[k]!).row = rs[k] := by
    refine ⟨((List.range us.length).map q).toArray, by simp, fun k hk => ?_⟩
    have e : (((List.range us.length).map q).toArray)[k]! = q k := by
      rw [getElem!_pos _ k (by simpa using hk)]
      simp
    obtain ⟨h1, h2⟩ := hq k hk
    rw [e]
    rw [List.getElem?_eq_getElem hk] at h1
    rw [List.getElem?_eq_getElem (hl ▸ hk)] at h2
    exact ⟨(Option.some.inj h1).symm, (Option.some.inj h2).symm⟩
  have hg : g < w.heap.size := hown.lt
  have hH : Holds (Rw.val (w := w) (g := g)) w g 0 d := by
    intro j hj
    rw [hds] at hj
    rw [(hget j hj).1, Nat.zero_add]
    refine ⟨(hown.cell j).trans ?_, hown.free j⟩
    unfold rowH
    simp
  have h := Any.slices_SortFunc sortL (Rw.val (w := w) (g := g)) (fun x => by obtain ⟨⟨A, c, hv, _⟩, _⟩ := x.2; show x.1.1.oneCell' = true; rw [hv]; rfl) (fun x y : Rw w g => cmpO o x.row y.row) (swoW o w g) f cb g 0 us.length d w hA.1 (by
    intro m os dk hs x y
    have hgr := grown_sortWorld1 (Rw.val (w := w) (g := g)) w g 0 m dk os
    have hbl := below_sortWorld1 (Rw.val (w := w) (g := g)) w g 0 m dk os hg
    refine (hA.2 _ x.val y.val x.row y.row (hb0 ▸ hB.trans (hbl.mono hbg)) ((x.2.grown hgr (Nat.lt_succ_self _) (Nat.le_refl _)).low (Nat.zero_le _)) ((y.2.grown hgr (Nat.lt_succ_self _) (Nat.le_refl _)).low (Nat.zero_le _))).mono ?_
    rintro e w' ⟨rfl, hgb⟩
    exact ⟨rfl, hgb.grow⟩) hH hg (by omega)
  rw [hds] at h
  refine Calls.mono h ?_
  rintro e w' ⟨rfl, d', n, os, hp, hs, rfl⟩
  have hsz : d'.size = us.length := by rw [hp.1, hds]
  have hgr := grown_sortWorld1 (Rw.val (w := w) (g := g)) w g 0 n d' os
  have hbl := below_sortWorld1 (Rw.val (w := w) (g := g)) w g 0 n d' os hg
  have hH' := holds_sortWorld (Rw.val (w := w) (g := g)) w g 0 n d d' os hg hH (by rw [hsz, hds])
  have hrows : d.toList.map Rw.row = rs := by
    apply List.ext_getElem
    · simp [hds, hl]
    · intro k h1 h2
      have hk : k < us.length := by simpa [hds] using h1
      rw [List.getElem_map, ← (hget k hk).2, getElem!_pos d k (by omega)]
      simp
  have hD : (d'.toList.map Rw.row) = sortO o rs := by
    refine sortO_of o rs _ ?_ ?_
    · rw [← hrows]
      have h2 := hp.2.2
      have e1 : d'.extract 0 us.length = d' := by rw [← hsz]; exact Array.extract_size
      have e2 : d.extract 0 us.length = d := by rw [← hds]; exact Array.extract_size
      rw [e1, e2] at h2
      exact h2.map _
    · rw [List.pairwise_map, List.pairwise_iff_getElem]
      intro i j hi hj hij
      have h3 := hs i j (Nat.zero_le _) hij (by simp at hj ⊢; omega)
      rw [ltO, getElem!_pos _ _ (by simpa using hj), getElem!_pos _ _ (by simpa using hi)] at h3
      simp only [decide_eq_false_iff_not] at h3
      unfold leO
      simpa using h3
  refine ⟨rfl, ?_, hB.trans (hbl.mono hbg)⟩
  refine ⟨some ⟨g, 0, none⟩, us.length, by rw [sortO_len, hl], by rw [sortO_len]; omega, fun k r hk => ?_⟩
  rw [← hD, List.getElem?_map] at hk
  have hkl : k < d'.size := by
    rcases Nat.lt_or_ge k d'.size with h1 | h1
    · exact h1
    · rw [List.getElem?_eq_none (by simpa using h1)] at hk; cases hk
  have hc := (hH' k hkl).1
  rw [List.getElem?_eq_getElem (by simpa using hkl)] at hk
  simp only [Option.map_some, Option.some.injEq, Array.getElem_toList] at hk
  rw [getElem!_pos d' k hkl] at hc
  refine ⟨⟨g, 0, none⟩, d'[k].val, rfl, hbg, Nat.lt_of_lt_of_le hg hgr.size, ?_, ?_⟩
  · rw [show (⟨g, 0, none⟩ : Addr).add k = ⟨g, 0 + k, none⟩ by unfold Addr.add; split <;> simp_all]; exact hc
  · rw [← hk]
    exact (d'[k].2.grown hgr (Nat.lt_succ_self _) (Nat.le_refl _)).low (Nat.zero_le _)
end Go.Proofs.YtimmfckkgdlokaaGreatDoor
/-
  One column of a row, of the program and of the reference; comparing by one column; the closure of tuple.Order. Conditions: lengths. (Written by mkTuC.py.)
-/
namespace Go.Proofs.YtimmfckkgdlokaaGreatDoor
set_option maxRecDepth 100000
open Go.RowKit

theorem atP_neg (p : List Vl) (i : Int) (h : i < 0) : atP p i = zV := by unfold atP; rw [if_neg (by omega)]
theorem atP_out (p : List Vl) (k : Nat) (h : ¬ k < p.length) : atP p (k : Nat) = zV := by
  unfold atP; rw [if_pos (by omega), Int.toNat_natCast, List.getD_eq_getElem?_getD, List.getElem?_eq_none (by omega)]; rfl
theorem atP_in (p : List Vl) (k : Nat) (h : k < p.length) : atP p (k : Nat) = p[k] := by
  unfold atP; rw [if_pos (by omega), Int.toNat_natCast, List.getD_eq_getElem?_getD, List.getElem?_eq_getElem h]; rfl
set_option maxHeartbeats 400000 in
theorem gNull_any (w : World) : Calls Tryz.prog 18 #[] w fun e w' => e = .returned (.agg #[.int .i64 0, .int .i64 0, .string ⟨#[]⟩]) ∧ GB w w' := by
  go_enter Tryz.func18, Tryz.ntmps18
  go_wp2
  (try simp only [Exit.inBlock, Exit.then]); refine bodyPost_ret_by (results_cell_row1 (by rfl) _ _ (w.heap.size) _ (by rfl) (load_val (Own.new _ _ _))) ?_ ?_; (focus rfl); refine ⟨rfl, ?_⟩
  refine gb_of ?_ (by first | exact Nat.le_refl _ | (simp; omega))
  (repeat' (first | (with_reducible exact Below.refl _ _) | (with_reducible assumption) | (with_reducible refine Below.alloc ?_ ?_ _) | (with_reducible refine Below.drew ?_) | (with_reducible refine Below.setCell ?_ ?_ _) | (with_reducible refine Below.trans ?_ (Below.mono (by assumption) ?_)) | go_size))
set_option maxHeartbeats 400000 in
theorem grNull_any (w : World) : Calls Tryz.prog 82 #[] w fun e w' => e = .returned (.agg #[.int .i64 0, .int .i64 0, .string ⟨#[]⟩]) ∧ GB w w' := by
  go_enter Tryz.func82, Tryz.ntmps82
  go_wp2
  (try simp only [Exit.inBlock, Exit.then]); refine bodyPost_ret_by (results_cell_row1 (by rfl) _ _ (w.heap.size) _ (by rfl) (load_val (Own.new _ _ _))) ?_ ?_; (focus rfl); refine ⟨rfl, ?_⟩
  refine gb_of ?_ (by first | exact Nat.le_refl _ | (simp; omega))
  (repeat' (first | (with_reducible exact Below.refl _ _) | (with_reducible assumption) | (with_reducible refine Below.alloc ?_ ?_ _) | (with_reducible refine Below.drew ?_) | (with_reducible refine Below.setCell ?_ ?_ _) | (with_reducible refine Below.trans ?_ (Below.mono (by assumption) ?_)) | go_size))
set_option maxRecDepth 100000 in
set_option maxHeartbeats 1600000 in
theorem column_any (u : Value) (p : List Vl) (i : Int) (w : World) (L : Nat) (hu : RdV w L w.heap.size u p) :
    Calls Tryz.prog 29 #[u, .int .i64 i] w fun e w' => e = .returned (valV (atP p i)) ∧ GB w w' := by
  obtain ⟨A, c, rfl, hl1, hc1⟩ := hu
  have oB : Own (w.alloc (.cells #[.int .i64 0, .int .i64 0, .string ⟨#[]⟩] 28)) w.heap.size 28 #[.int .i64 0, .int .i64 0, .string ⟨#[]⟩] := Own.new _ _ _
  by_cases h0 : i < 0
  · rw [atP_neg p i h0]
    show Calls _ _ _ _ (fun e w' => e = .returned (.agg #[.int .i64 0, .int .i64 0, .string ⟨#[]⟩]) ∧ GB w w')
    clear hc1
    go_enter Tryz.func29, Tryz.ntmps29
    go_wp2_with fail
    refine (gNull_any _).mono ?_
    rintro e w1 ⟨rfl, hb1, hd1⟩
    have z1 := hb1.size
    simp only [World.size_alloc] at z1
    have o1 := oB.below hb1 (by simp only [World.size_alloc]; omega)
    have d0 := o1.cell 0; have e0 := o1.free 0; have d1 := o1.cell 1; have e1 := o1.free 1; have d2 := o1.cell 2; have e2 := o1.free 2; (try simp only [List.getElem?_toArray, List.getElem?_cons_zero, List.getElem?_cons_succ] at d0 d1 d2)
    go_wp2
    (try simp only [Exit.inBlock, Exit.then]); refine bodyPost_ret_by (results_cell_row1 (by rfl) _ _ (w.heap.size) _ (by rfl) (load_val (((o1.store 0 _).store 1 _).store 2 _))) ?_ ?_; (focus rfl); refine ⟨rfl, ?_⟩
    refine gb_of ?_ (by first | exact hd1 | (simp at hd1 ⊢; omega))
    (repeat' (first | (with_reducible exact Below.refl _ _) | (with_reducible assumption) | (with_reducible refine Below.alloc ?_ ?_ _) | (with_reducible refine Below.drew ?_) | (with_reducible refine Below.setCell ?_ ?_ _) | (with_reducible refine Below.trans ?_ (Below.mono (by assumption) ?_)) | go_size))
  · obtain ⟨k, rfl⟩ := Int.eq_ofNat_of_zero_le (show 0 ≤ i by omega)
    by_cases hk : k < p.length
    · have hki : (k : Int) < p.length := by omega
      have hki2 : ¬ (k : Int) ≥ p.length := by omega
      rw [atP_in p k hk]
      obtain ⟨ad, rfl, _, hab, c0, c1, c2⟩ := hc1 k _ (List.getElem?_eq_getElem hk)
      generalize p[k] = q at *
      obtain ⟨kd, n, s⟩ := q
      unfold valV
      dsimp only at c0 c1 c2 ⊢
      have d0 := ((bel_mark w (.cells #[.int .i64 0, .int .i64 0, .string ⟨#[]⟩] 28)).cell (p := ad.add (k * 3)) (by rw [add_block]; exact hab)).trans c0
      have d1 := ((bel_mark w (.cells #[.int .i64 0, .int .i64 0, .string ⟨#[]⟩] 28)).cell (p := ⟨(ad.add (k * 3)).block, (ad.add (k * 3)).off + 1, none⟩) (by show (ad.add (k * 3)).block < _; rw [add_block]; exact hab)).trans c1
      have d2 := ((bel_mark w (.cells #[.int .i64 0, .int .i64 0, .string ⟨#[]⟩] 28)).cell (p := ⟨(ad.add (k * 3)).block, (ad.add (k * 3)).off + 2, none⟩) (by show (ad.add (k * 3)).block < _; rw [add_block]; exact hab)).trans c2
      clear c0 c1 c2 hc1
      go_enter Tryz.func29, Tryz.ntmps29
      go_wp2
      (try simp only [Exit.inBlock, Exit.then]); refine bodyPost_ret_by (results_cell_row1 (by rfl) _ _ (w.heap.size) _ (by rfl) (load_val (Own.new _ _ _))) ?_ ?_; (focus rfl); refine ⟨rfl, ?_⟩
      refine gb_of ?_ (by first | exact Nat.le_refl _ | (simp; omega))
      (repeat' (first | (with_reducible exact Below.refl _ _) | (with_reducible assumption) | (with_reducible refine Below.alloc ?_ ?_ _) | (with_reducible refine Below.drew ?_) | (with_reducible refine Below.setCell ?_ ?_ _) | (with_reducible refine Below.trans ?_ (Below.mono (by assumption) ?_)) | go_size))
    · have hki : ¬ (k : Int) < p.length := by omega
      have hki2 : (k : Int) ≥ p.length := by omega
      rw [atP_out p k hk]
      show Calls _ _ _ _ (fun e w' => e = .returned (.agg #[.int .i64 0, .int .i64 0, .string ⟨#[]⟩]) ∧ GB w w')
      clear hc1
      go_enter Tryz.func29, Tryz.ntmps29
      go_wp2_with fail
      refine (gNull_any _).mono ?_
      rintro e w1 ⟨rfl, hb1, hd1⟩
      have z1 := hb1.size
      simp only [World.size_alloc] at z1
      have o1 := oB.below hb1 (by simp only [World.size_alloc]; omega)
      have d0 := o1.cell 0; have e0 := o1.free 0; have d1 := o1.cell 1; have e1 := o1.free 1; have d2 := o1.cell 2; have e2 := o1.free 2; (try simp only [List.getElem?_toArray, List.getElem?_cons_zero, List.getElem?_cons_succ] at d0 d1 d2)
      go_wp2
      (try simp only [Exit.inBlock, Exit.then]); refine bodyPost_ret_by (results_cell_row1 (by rfl) _ _ (w.heap.size) _ (by rfl) (load_val (((o1.store 0 _).store 1 _).store 2 _))) ?_ ?_; (focus rfl); refine ⟨rfl, ?_⟩
      refine gb_of ?_ (by first | exact hd1 | (simp at hd1 ⊢; omega))
      (repeat' (first | (with_reducible exact Below.refl _ _) | (with_reducible assumption) | (with_reducible refine Below.alloc ?_ ?_ _) | (with_reducible refine Below.drew ?_) | (with_reducible refine Below.setCell ?_ ?_ _) | (with_reducible refine Below.trans ?_ (Below.mono (by assumption) ?_)) | go_size))
set_option maxRecDepth 100000 in
set_option maxHeartbeats 1600000 in
theorem rAt_any (u : Value) (p : List Vl) (i : Int) (w : World) (L : Nat) (hu : RdV w L w.heap.size u p) :
    Calls Tryz.prog 69 #[u, .int .i64 i] w fun e w' => e = .returned (valV (atP p i)) ∧ GB w w' := by
  obtain ⟨A, c, rfl, hl1, hc1⟩ := hu
  have oB : Own (w.alloc (.cells #[.int .i64 0, .int .i64 0, .string ⟨#[]⟩] 28)) w.heap.size 28 #[.int .i64 0, .int .i64 0, .string ⟨#[]⟩] := Own.new _ _ _
  by_cases h0 : i < 0
  · rw [atP_neg p i h0]
    show Calls _ _ _ _ (fun e w' => e = .returned (.agg #[.int .i64 0, .int .i64 0, .string ⟨#[]⟩]) ∧ GB w w')
    clear hc1
    go_enter Tryz.func69, Tryz.ntmps69
    go_wp2_with fail
    refine (grNull_any _).mono ?_
    rintro e w1 ⟨rfl, hb1, hd1⟩
    have z1 := hb1.size
    simp only [World.size_alloc] at z1
    have o1 := oB.below hb1 (by simp only [World.size_alloc]; omega)
    have d0 := o1.cell 0; have e0 := o1.free 0; have d1 := o1.cell 1; have e1 := o1.free 1; have d2 := o1.cell 2; have e2 := o1.free 2; (try simp only [List.getElem?_toArray, List.getElem?_cons_zero, List.getElem?_cons_succ] at d0 d1 d2)
    go_wp2
    (try simp only [Exit.inBlock, Exit.then]); refine bodyPost_ret_by (results_cell_row1 (by rfl) _ _ (w.heap.size) _ (by rfl) (load_val (((o1.store 0 _).store 1 _).store 2 _))) ?_ ?_; (focus rfl); refine ⟨rfl, ?_⟩
    refine gb_of ?_ (by first | exact hd1 | (simp at hd1 ⊢; omega))
    (repeat' (first | (with_reducible exact Below.refl _ _) | (with_reducible assumption) | (with_reducible refine Below.alloc ?_ ?_ _) | (with_reducible refine Below.drew ?_) | (with_reducible refine Below.setCell ?_ ?_ _) | (with_reducible refine Below.trans ?_ (Below.mono (by assumption) ?_)) | go_size))
  · obtain ⟨k, rfl⟩ := Int.eq_ofNat_of_zero_le (show 0 ≤ i by omega)
    by_cases hk : k < p.length
    · have hki : (k : Int) < p.length := by omega
      have hki2 : ¬ (k : Int) ≥ p.length := by omega
      rw [atP_in p k hk]
      obtain ⟨ad, rfl, _, hab, c0, c1, c2⟩ := hc1 k _ (List.getElem?_eq_getElem hk)
      generalize p[k] = q at *
      obtain ⟨kd, n, s⟩ := q
      unfold valV
      dsimp only at c0 c1 c2 ⊢
      have d0 := ((bel_mark w (.cells #[.int .i64 0, .int .i64 0, .string ⟨#[]⟩] 28)).cell (p := ad.add (k * 3)) (by rw [add_block]; exact hab)).trans c0
      have d1 := ((bel_mark w (.cells #[.int .i64 0, .int .i64 0, .string ⟨#[]⟩] 28)).cell (p := ⟨(ad.add (k * 3)).block, (ad.add (k * 3)).off + 1, none⟩) (by show (ad.add (k * 3)).block < _; rw [add_block]; exact hab)).trans c1
      have d2 := ((bel_mark w (.cells #[.int .i64 0, .int .i64 0, .string ⟨#[]⟩] 28)).cell (p := ⟨(ad.add (k * 3)).block, (ad.add (k * 3)).off + 2, none⟩) (by show (ad.add (k * 3)).block < _; rw [add_block]; exact hab)).trans c2
      clear c0 c1 c2 hc1
      go_enter Tryz.func69, Tryz.ntmps69
      go_wp2
      (try simp only [Exit.inBlock, Exit.then]); refine bodyPost_ret_by (results_cell_row1 (by rfl) _ _ (w.heap.size) _ (by rfl) (load_val (Own.new _ _ _))) ?_ ?_; (focus rfl); refine ⟨rfl, ?_⟩
      refine gb_of ?_ (by first | exact Nat.le_refl _ | (simp; omega))
      (repeat' (first | (with_reducible exact Below.refl _ _) | (with_reducible assumption) | (with_reducible refine Below.alloc ?_ ?_ _) | (with_reducible refine Below.drew ?_) | (with_reducible refine Below.setCell ?_ ?_ _) | (with_reducible refine Below.trans ?_ (Below.mono (by assumption) ?_)) | go_size))
    · have hki : ¬ (k : Int) < p.length := by omega
      have hki2 : (k : Int) ≥ p.length := by omega
      rw [atP_out p k hk]
      show Calls _ _ _ _ (fun e w' => e = .returned (.agg #[.int .i64 0, .int .i64 0, .string ⟨#[]⟩]) ∧ GB w w')
      clear hc1
      go_enter Tryz.func69, Tryz.ntmps69
      go_wp2_with fail
      refine (grNull_any _).mono ?_
      rintro e w1 ⟨rfl, hb1, hd1⟩
      have z1 := hb1.size
      simp only [World.size_alloc] at z1
      have o1 := oB.below hb1 (by simp only [World.size_alloc]; omega)
      have d0 := o1.cell 0; have e0 := o1.free 0; have d1 := o1.cell 1; have e1 := o1.free 1; have d2 := o1.cell 2; have e2 := o1.free 2; (try simp only [List.getElem?_toArray, List.getElem?_cons_zero, List.getElem?_cons_succ] at d0 d1 d2)
      go_wp2
      (try simp only [Exit.inBlock, Exit.then]); refine bodyPost_ret_by (results_cell_row1 (by rfl) _ _ (w.heap.size) _ (by rfl) (load_val (((o1.store 0 _).store 1 _).store 2 _))) ?_ ?_; (focus rfl); refine ⟨rfl, ?_⟩
      refine gb_of ?_ (by first | exact hd1 | (simp at hd1 ⊢; omega))
      (repeat' (first | (with_reducible exact Below.refl _ _) | (with_reducible assumption) | (with_reducible refine Below.alloc ?_ ?_ _) | (with_reducible refine Below.drew ?_) | (with_reducible refine Below.setCell ?_ ?_ _) | (with_reducible refine Below.trans ?_ (Below.mono (by assumption) ?_)) | go_size))
set_option maxRecDepth 100000 in
set_option maxHeartbeats 1600000 in
theorem compareColumn_any (u v : Value) (p q : List Vl) (i : Int) (d : Bool) (w : World) (hu : RdN w 0 w.heap.size u p) (hv : RdN w 0 w.heap.size v q) :
    Calls Tryz.prog 28 #[u, v, .agg #[.int .i64 i, .bool d]] w fun e w' => e = .returned (.int .i64 (colO (i, d) p q)) ∧ GB w w' := by
  have HU := Lib.hid (fun W (h : Below w.heap.size w W) => column_any u p i W 0 (hu.1.step h (Nat.le_refl _)))
  have HV := Lib.hid (fun W (h : Below w.heap.size w W) => column_any v q i W 0 (hv.1.step h (Nat.le_refl _)))
  have HC := Lib.hid (fun x y W => gCmp_any x y W)
  obtain ⟨⟨A, c, rfl, q1⟩, q2⟩ := hu
  obtain ⟨⟨A2, c2, rfl, q3⟩, q4⟩ := hv
  clear q1 q2 q3 q4
  cases d
  · have HF := Lib.hid (show colO (i, false) p q = cmpP (atP p i) (atP q i) from rfl)
    have b0 := bel_mark w (.cells #[.int .i64 i, .bool false] 34)
    have oX := Own.new w 34 #[.int .i64 i, .bool false]
    have sX : w.heap.size < (w.alloc (.cells #[.int .i64 i, .bool false] 34)).heap.size := by simp
    have dX : w.drawn ≤ (w.alloc (.cells #[.int .i64 i, .bool false] 34)).drawn := Nat.le_refl _
    go_enter Tryz.func28, Tryz.ntmps28
    go_wp2_with fail
    generalize w.alloc (.cells #[.int .i64 i, .bool false] 34) = W at *
    have x0 : ∀ r : AftD W, r.w.cell? ⟨w.heap.size, 0, none⟩ = some (.int .i64 i) := aftD_cell sX (oX.cell 0)
    have hx : ∀ r : AftD W, Calls Tryz.prog 29 #[.slice A p.length c, .int .i64 i] r.w fun e w' => e = .returned (valV (atP p i)) ∧ GB r.w w' := fun r => HU.out r.w (b0.trans (r.h.1.mono b0.size))
    have hy : ∀ r : AftD W, Calls Tryz.prog 29 #[.slice A2 q.length c2, .int .i64 i] r.w fun e w' => e = .returned (valV (atP q i)) ∧ GB r.w w' := fun r => HV.out r.w (b0.trans (r.h.1.mono b0.size))
    have HX := Lib.hid hx
    have HY := Lib.hid hy
    have B0 := Lib.hid b0
    clear hx hy b0 oX
    (refine wp_region_aftD (by kernel_rfl) (by kernel_rfl) ?_; (repeat (go_big_quiet_step (first | (go_at_call 29; first | with_reducible exact calls_aftD (HX.out _) | with_reducible exact calls_aftD (HY.out _)) | (go_at_call 36; exact calls_aftD (HC.out _ _ _))))); refine wpQuiet_nil ?_; intro wq hw0; obtain ⟨⟨wq0, hbq⟩, hw1⟩ := hw0; subst hw1; (try dsimp only))
    go_wp2
    go_ret
    exact ⟨by rw [HF.out]; rfl, gb_of (B0.out.trans (hbq.1.mono B0.out.size)) (Nat.le_trans dX hbq.2)⟩
  · have HF := Lib.hid (show colO (i, true) p q = cmpP (atP q i) (atP p i) from rfl)
    have b0 := bel_mark w (.cells #[.int .i64 i, .bool true] 34)
    have oX := Own.new w 34 #[.int .i64 i, .bool true]
    have sX : w.heap.size < (w.alloc (.cells #[.int .i64 i, .bool true] 34)).heap.size := by simp
    have dX : w.drawn ≤ (w.alloc (.cells #[.int .i64 i, .bool true] 34)).drawn := Nat.le_refl _
    go_enter Tryz.func28, Tryz.ntmps28
    go_wp2_with fail
    generalize w.alloc (.cells #[.int .i64 i, .bool true] 34) = W at *
    have x0 : ∀ r : AftD W, r.w.cell? ⟨w.heap.size, 0, none⟩ = some (.int .i64 i) := aftD_cell sX (oX.cell 0)
    have hx : ∀ r : AftD W, Calls Tryz.prog 29 #[.slice A2 q.length c2, .int .i64 i] r.w fun e w' => e = .returned (valV (atP q i)) ∧ GB r.w w' := fun r => HV.out r.w (b0.trans (r.h.1.mono b0.size))
    have hy : ∀ r : AftD W, Calls Tryz.prog 29 #[.slice A p.length c, .int .i64 i] r.w fun e w' => e = .returned (valV (atP p i)) ∧ GB r.w w' := fun r => HU.out r.w (b0.trans (r.h.1.mono b0.size))
    have HX := Lib.hid hx
    have HY := Lib.hid hy
    have B0 := Lib.hid b0
    clear hx hy b0 oX
    (refine wp_region_aftD (by kernel_rfl) (by kernel_rfl) ?_; (repeat (go_big_quiet_step (first | (go_at_call 29; first | with_reducible exact calls_aftD (HX.out _) | with_reducible exact calls_aftD (HY.out _)) | (go_at_call 36; exact calls_aftD (HC.out _ _ _))))); refine wpQuiet_nil ?_; intro wq hw0; obtain ⟨⟨wq0, hbq⟩, hw1⟩ := hw0; subst hw1; (try dsimp only))
    go_wp2
    go_ret
    exact ⟨by rw [HF.out]; rfl, gb_of (B0.out.trans (hbq.1.mono B0.out.size)) (Nat.le_trans dX hbq.2)⟩
end Go.Proofs.YtimmfckkgdlokaaGreatDoor
/-
  The closure of tuple.Order: what it answers; what sorting asks of it and of tuple.Compare. Conditions: lengths.
-/
namespace Go.Proofs.YtimmfckkgdlokaaGreatDoor
set_option maxRecDepth 100000
open Go.RowKit

/-- The slice v holds the columns o by which is sorted. -/
def RdO (w : World) (L B : Nat) (v : Value) (o : List (Int × Bool)) : Prop :=
  ∃ A c, v = .slice A o.length c ∧ o.length ≤ 9223372036854775807 ∧ ∀ (k : Nat) (q : Int × Bool), o[k]? = some q → ∃ ad : Addr, A = some ad ∧ L ≤ ad.block ∧ ad.block < B ∧
    w.cell? (ad.add (k * 2)) = some (.int .i64 q.1) ∧ w.cell? ⟨(ad.add (k * 2)).block, (ad.add (k * 2)).off + 1, none⟩ = some (.bool q.2)
theorem RdO.below {w w' : World} {L B : Nat} {v : Value} {o : List (Int × Bool)} (h : RdO w L B v o) (hb : Below B w w') : RdO w' L B v o := by
  obtain ⟨A, c, hv, hl, hc⟩ := h
  refine ⟨A, c, hv, hl, fun k n hk => ?_⟩
  obtain ⟨ad, h1, h0, h2, h3, h4⟩ := hc k n hk
  exact ⟨ad, h1, h0, h2, (hb.cell (p := ad.add (k * 2)) (by rw [add_block]; exact h2)).trans h3, (hb.cell (p := ⟨(ad.add (k * 2)).block, (ad.add (k * 2)).off + 1, none⟩) (by show (ad.add (k * 2)).block < _; rw [add_block]; exact h2)).trans h4⟩
theorem RdO.more {w : World} {L B B' : Nat} {v : Value} {o : List (Int × Bool)} (h : RdO w L B v o) (hB : B ≤ B') : RdO w L B' v o := by
  obtain ⟨A, c, hv, hl, hc⟩ := h
  exact ⟨A, c, hv, hl, fun k n hk => let ⟨ad, h1, h0, h2, h3⟩ := hc k n hk; ⟨ad, h1, h0, Nat.lt_of_lt_of_le h2 hB, h3⟩⟩
theorem RdO.step {w w' : World} {L B : Nat} {v : Value} {o : List (Int × Bool)} (h : RdO w L B v o) (hb : Below w.heap.size w w') (hB : B ≤ w.heap.size) : RdO w' L w'.heap.size v o :=
  ((h.more hB).below hb).more hb.size
theorem cmpO_drop (o : List (Int × Bool)) (p q : List Vl) (k : Nat) (x : Int × Bool) (h : o[k]? = some x) : cmpO (o.drop k) p q = if colO x p q = 0 then cmpO (o.drop (k + 1)) p q else colO x p q := by
  obtain ⟨h1, rfl⟩ := List.getElem?_eq_some_iff.1 h
  rw [List.drop_eq_getElem_cons h1]; rfl
set_option maxRecDepth 100000 in
set_option maxHeartbeats 3200000 in
theorem ordClosure_any (bo : Nat) (vo : Value) (o : List (Int × Bool)) (u v : Value) (p q : List Vl) (w : World) (L : Nat) (hbl : bo < w.heap.size) (hbo : w.cell? ⟨bo, 0, none⟩ = some vo) (ho : RdO w L w.heap.size vo o) (hu : RdN w 0 w.heap.size u p) (hv : RdN w 0 w.heap.size v q) :
    Calls Tryz.prog 27 #[u, v, .pointer (some ⟨bo, 0, none⟩)] w fun e w' => e = .returned (.int .i64 (cmpO o p q)) ∧ GB w w' := by
  have HCC := Lib.hid (fun i d W (h : Below w.heap.size w W) => compareColumn_any u v p q i d W (hu.step h (Nat.le_refl _)) (hv.step h (Nat.le_refl _)))
  have HT := Lib.hid (fun W (h : Below w.heap.size w W) => gCompare_any u v p q W 0 0 (hu.step h (Nat.le_refl _)).1 (hv.step h (Nat.le_refl _)).1)
  obtain ⟨⟨A, c, rfl, q1⟩, q2⟩ := hu
  obtain ⟨⟨A2, c2, rfl, q3⟩, q4⟩ := hv
  clear q1 q2 q3 q4
  obtain ⟨Ao, co, rfl, hlo, hco⟩ := ho
  have HCO := Lib.hid hco
  clear hco
  go_enter Tryz.func27, Tryz.ntmps27
  go_wp2
  go_loopw [11] (fun i wr => ∃ k : Nat, k ≤ o.length ∧ i = .int .i64 k ∧ Hid (cmpO o p q = cmpO (o.drop k) p q) ∧ Below w.heap.size w wr ∧ w.drawn ≤ wr.drawn) (fun i _ => o.length - (intOf i).toNat)
  case atStart => exact ⟨0, Nat.zero_le _, rfl, Lib.hid rfl, Below.refl _ _, Nat.le_refl _⟩
  case round =>
    obtain ⟨k, hk, rfl, HR, hbr, hdr⟩ := hrel
    have hbz := hbr.size
    by_cases hlt : k < o.length
    · have hki : (k : Int) < o.length := by omega
      obtain ⟨ad, rfl, _, hab, c0, c1⟩ := HCO.out k _ (List.getElem?_eq_getElem hlt)
      have d0 := (hbr.cell (p := ad.add (k * 2)) (by rw [add_block]; exact hab)).trans c0
      have d1 := (hbr.cell (p := ⟨(ad.add (k * 2)).block, (ad.add (k * 2)).off + 1, none⟩) (by show (ad.add (k * 2)).block < _; rw [add_block]; exact hab)).trans c1
      have hcd := cmpO_drop o p q k _ (List.getElem?_eq_getElem hlt)
      rw [← HR.out] at hcd
      generalize o[k] = x at *
      obtain ⟨i, d⟩ := x
      dsimp only at d0 d1
      have HCI := Lib.hid (HCC.out i d)
      generalize colO (i, d) p q = r at *
      have b1 := bel_mark wr (.cells #[.int .i64 i, .bool d] 34)
      have hBB := Lib.hid (hbr.trans (b1.mono hbz))
      have hdz : w.heap.size ≤ (wr.alloc (.cells #[.int .i64 i, .bool d] 34)).heap.size := hBB.out.size
      have hdd : w.drawn ≤ (wr.alloc (.cells #[.int .i64 i, .bool d] 34)).drawn := hdr
      clear c0 c1 b1
      by_cases hr : r = 0
      · have HF := Lib.hid (hcd.trans (if_pos hr))
        have e1 : (r != 0) = false := by simp [hr]
        clear hcd hr
        go_wp2_with fail
        with_reducible refine (HCI.out _ hBB.out).mono ?_
        rintro e w1 ⟨rfl, hb1, hd1⟩
        go_wp2
        go_round
        case rel => exact ⟨k + 1, by omega, by go_num, HF, hBB.out.trans (hb1.mono hdz), Nat.le_trans hdd hd1⟩
        case measure => simp [intOf]; omega
      · have HF := Lib.hid (hcd.trans (if_neg hr))
        have e1 : (r != 0) = true := by simp [hr]
        clear hcd hr
        go_wp2_with fail
        with_reducible refine (HCI.out _ hBB.out).mono ?_
        rintro e w1 ⟨rfl, hb1, hd1⟩
        go_wp2
        go_ret
        exact ⟨by rw [HF.out]; rfl, gb_of (hBB.out.trans (hb1.mono hdz)) (Nat.le_trans hdd hd1)⟩
    · have hki : ¬ (k : Int) < o.length := by omega
      have HF := Lib.hid (show cmpO o p q = cmpR p q by rw [HR.out, List.drop_eq_nil_of_le (by omega)]; rfl)
      have HTW := Lib.hid (HT.out wr hbr)
      clear HR HCC HT
      go_wp2_with fail
      with_reducible refine HTW.out.mono ?_
      rintro e w1 ⟨rfl, hb1, hd1⟩
      go_wp2
      go_ret
      exact ⟨by rw [HF.out]; rfl, gb_of (hbr.trans (hb1.mono hbz)) (Nat.le_trans hdr hd1)⟩
/-- What sorting asks of tuple.Compare. -/
theorem asks_compare (w : World) : Asks 22 #[] (cmpO []) w :=
  ⟨enters_of Tryz.func22 (by kernel_rfl) rfl, fun W x y p q _ hx hy => gCompare_any x y p q W 0 0 hx.1 hy.1⟩
/-- What sorting asks of the closure. -/
theorem asks_closure (bo : Nat) (vo : Value) (o : List (Int × Bool)) (w : World) (L : Nat) (hbl : bo < w.heap.size) (hbo : w.cell? ⟨bo, 0, none⟩ = some vo) (ho : RdO w L w.heap.size vo o) : Asks 27 #[.pointer (some ⟨bo, 0, none⟩)] (cmpO o) w :=
  ⟨enters_of Tryz.func27 (by kernel_rfl) rfl, fun W x y p q hW hx hy => ordClosure_any bo vo o x y p q W L (Nat.lt_of_lt_of_le hbl hW.size) ((hW.cell (p := ⟨bo, 0, none⟩) hbl).trans hbo) (ho.step hW (Nat.le_refl _)) hx hy⟩
end Go.Proofs.YtimmfckkgdlokaaGreatDoor
/-
  Fits of the program: what it answers. Conditions: lengths.
-/
namespace Go.Proofs.YtimmfckkgdlokaaGreatDoor
set_option maxRecDepth 100000
open Go.RowKit

theorem val_cells {W : World} {g : Nat} {x y z : Value} (hg : g < W.heap.size) (o : Own W g 28 #[x, y, z]) : (∀ p : After W, p.w.cell? ⟨g, 0, none⟩ = some x) ∧ (∀ p : After W, p.w.cell? ⟨g, 1, none⟩ = some y) ∧ (∀ p : After W, p.w.cell? ⟨g, 2, none⟩ = some z) :=
  ⟨after_cell hg (o.cell 0), after_cell hg (o.cell 1), after_cell hg (o.cell 2)⟩
/-- The slice v holds the numbers zs. -/
def RdI (w : World) (L B : Nat) (v : Value) (zs : List Int) : Prop :=
  ∃ A c, v = .slice A zs.length c ∧ zs.length ≤ 9223372036854775807 ∧ ∀ (k : Nat) (z : Int), zs[k]? = some z → ∃ ad : Addr, A = some ad ∧ L ≤ ad.block ∧ ad.block < B ∧ w.cell? (ad.add k) = some (.int .i64 z)
theorem RdI.below {w w' : World} {L B : Nat} {v : Value} {zs : List Int} (h : RdI w L B v zs) (hb : Below B w w') : RdI w' L B v zs := by
  obtain ⟨A, c, hv, hl, hc⟩ := h
  exact ⟨A, c, hv, hl, fun k n hk => let ⟨ad, h1, h0, h2, h3⟩ := hc k n hk; ⟨ad, h1, h0, h2, (hb.cell (p := ad.add k) (by rw [add_block]; exact h2)).trans h3⟩⟩
theorem RdI.more {w : World} {L B B' : Nat} {v : Value} {zs : List Int} (h : RdI w L B v zs) (hB : B ≤ B') : RdI w L B' v zs := by
  obtain ⟨A, c, hv, hl, hc⟩ := h
  exact ⟨A, c, hv, hl, fun k n hk => let ⟨ad, h1, h0, h2, h3⟩ := hc k n hk; ⟨ad, h1, h0, Nat.lt_of_lt_of_le h2 hB, h3⟩⟩
theorem RdI.step {w w' : World} {L B : Nat} {v : Value} {zs : List Int} (h : RdI w L B v zs) (hb : Below w.heap.size w w') (hB : B ≤ w.heap.size) : RdI w' L w'.heap.size v zs :=
  ((h.more hB).below hb).more hb.size
/-- Whether the first k columns fit. -/
def fitP (p : Vl) (z : Int) : Bool := okP p && !(!(p.1 == z) && !(p.1 == 0))
def fitL : List Vl → List Int → Bool
  | p :: ps, z :: zs => fitP p z && fitL ps zs
  | _, _ => true
def fitsF (ps : List Vl) (zs : List Int) : Bool := decide (ps.length = zs.length) && fitL ps zs
theorem fitL_drop (ps : List Vl) (zs : List Int) (k : Nat) (p : Vl) (z : Int) (hp : ps[k]? = some p) (hz : zs[k]? = some z) : fitL (ps.drop k) (zs.drop k) = (fitP p z && fitL (ps.drop (k + 1)) (zs.drop (k + 1))) := by
  obtain ⟨h1, rfl⟩ := List.getElem?_eq_some_iff.1 hp
  obtain ⟨h2, rfl⟩ := List.getElem?_eq_some_iff.1 hz
  rw [List.drop_eq_getElem_cons h1, List.drop_eq_getElem_cons h2]
  rfl
theorem fitL_end (ps : List Vl) (zs : List Int) (k : Nat) (h : ¬ k < ps.length) : fitL (ps.drop k) (zs.drop k) = true := by
  rw [List.drop_eq_nil_of_le (by omega)]; rfl
end Go.Proofs.YtimmfckkgdlokaaGreatDoor
/-
  tuple.sorted, Sort, Order, Equal: what they answer. Conditions: lengths.
-/
namespace Go.Proofs.YtimmfckkgdlokaaGreatDoor
set_option maxRecDepth 100000
open Go.RowKit

theorem grownBy_setCell (w : World) (g k : Nat) (u : Value) : w.grownBy (w.setCell ⟨g, k, none⟩ u) (some g) :=
  ⟨rfl, rfl, rfl, by simp, fun j hj hne => by
    have hne2 : g ≠ j := fun e => hne (by rw [e])
    unfold World.setCell
    rw [Array.getElem?_modify, if_neg hne2]⟩
set_option maxRecDepth 100000 in
set_option maxHeartbeats 3200000 in
theorem sorted_any (f : FuncId) (cb : Array Value) (o : List (Int × Bool)) (v : Value) (rs : List (List Vl)) (w : World) (L : Nat) (hv : RdR w L w.heap.size v rs) (hlen : rs.length ≤ 1099511627776) (hrow : ∀ r ∈ rs, r.length ≤ 2199023255552) (hA : Asks f cb (cmpO o) w) :
    Calls Tryz.prog 21 #[v, .func (.func f) #[] cb] w (RetR w (sortO o rs)) := by
  obtain ⟨A, c, rfl, hl1, hc1⟩ := hv
  have HC := Lib.hid hc1
  have HROW := Lib.hid hrow
  have HA := Lib.hid hA
  have hmk := made_rowH w w.heap.size rfl rs.length hlen (rs.length : Nat) rfl
  have HB2 := Lib.hid (bel_mark w (.cells (rowH [] rs.length) 32))
  have HO2 := Lib.hid (Own.new w 32 (rowH [] rs.length))
  clear hc1 hrow hA
  go_enter Tryz.func21, Tryz.ntmps21
  go_wp2_with fail
  clear hmk
  go_loopw [13] (fun i wr => ∃ us : List Value, us.length ≤ rs.length ∧ i = .int .i64 (us.length : Nat) ∧ Hid (Own wr w.heap.size 32 (rowH us rs.length)) ∧ Hid (∀ (k : Nat) (u : Value) (r : List Vl), us[k]? = some u → rs[k]? = some r → RdN wr (w.heap.size + 1) wr.heap.size u r) ∧ Below w.heap.size w wr) (fun i _ => rs.length - (intOf i).toNat)
  case atStart => exact ⟨[], Nat.zero_le _, rfl, Lib.hid HO2.out, Lib.hid (fun k u r h _ => by simp at h), HB2.out⟩
  case round =>
    obtain ⟨us, hul, rfl, HO, HU, hbr⟩ := hrel
    have hbz := hbr.size
    by_cases hlt : us.length < rs.length
    · have hlti : (us.length : Int) < rs.length := by omega
      obtain ⟨ad, u, rfl, _, hab, c0, hrd⟩ := HC.out us.length _ (List.getElem?_eq_getElem hlt)
      have d0 := (hbr.cell (p := ad.add us.length) (by rw [add_block]; exact hab)).trans c0
      have hcl := clone_any u rs[us.length] wr 0 (hrd.step hbr (Nat.le_refl _)) (HROW.out _ (List.getElem_mem hlt))
      obtain ⟨⟨A1, c1, rfl, q1⟩, q2⟩ := hrd
      have HGET := Lib.hid (List.getElem?_eq_getElem hlt)
      generalize rs[us.length] = r at *
      have HCL := Lib.hid hcl
      have z0 := rowH_next us rs.length hlt
      clear q1 q2 c0 hcl
      go_wp2_with fail
      with_reducible refine HCL.out.mono ?_
      rintro e w1 ⟨u', rfl, hr', hb1⟩
      have o3 := HO.out.below hb1 HO.out.lt
      have B3 := hbr.trans (hb1.mono hbz)
      have HR1 := Lib.hid hr'
      obtain ⟨⟨A2, c2, rfl, q1⟩, q2⟩ := hr'
      have f0 := (o3.cell us.length).trans z0
      have e0 := o3.free us.length
      have o4 := o3.store us.length (.slice A2 r.length c2)
      rw [rowH_set us rs.length (.slice A2 r.length c2) hlt] at o4
      have HO4 := Lib.hid o4
      have HBX := Lib.hid (B3.setCell (p := ⟨w.heap.size, us.length, none⟩) (Nat.le_refl _) (.slice A2 r.length c2))
      have hgr := grownBy_setCell w1 w.heap.size us.length (.slice A2 r.length c2)
      have hw1 : w.heap.size < wr.heap.size := HO.out.lt
      have hN : ∀ (k : Nat) (x : Value) (y : List Vl), (us ++ [Value.slice A2 r.length c2])[k]? = some x → rs[k]? = some y → RdN (w1.setCell ⟨w.heap.size, us.length, none⟩ (.slice A2 r.length c2)) (w.heap.size + 1) (w1.setCell ⟨w.heap.size, us.length, none⟩ (.slice A2 r.length c2)).heap.size x y := by
        intro k x y hx hy
        by_cases hk : k < us.length
        · rw [List.getElem?_append_left hk] at hx
          exact ((HU.out k x y hx hy).step hb1 (Nat.le_refl _)).grown hgr (Nat.lt_succ_self _) (Nat.le_refl _)
        · have hk2 : k = us.length := by
            have := (List.getElem?_eq_some_iff.1 hx).1
            simp at this
            omega
          subst hk2
          rw [List.getElem?_append_right (Nat.le_refl _), Nat.sub_self] at hx
          injection hx with hx
          rw [HGET.out] at hy
          injection hy with hy
          subst hx hy
          exact (HR1.out.low (by omega)).grown hgr (Nat.lt_succ_self _) (Nat.le_refl _)
      have HN := Lib.hid hN
      clear o3 o4 z0 HO HU hN hgr q1 q2 B3 HR1
      go_wp2
      go_roundw
      case rel => exact ⟨us ++ [.slice A2 r.length c2], by rw [List.length_append]; simp; omega, by rw [List.length_append]; first | rfl | go_num, HO4, HN, HBX.out⟩
      case measure => simp [intOf]; omega
    · have hun : us.length = rs.length := by omega
      have hni : ¬ (us.length : Int) < rs.length := by omega
      have hO5 := HO.out
      rw [← hun] at hO5
      have hs := sortFunc_any f cb o wr w.heap.size us rs hun hlen hO5 HU.out w.heap.size (Nat.le_refl _) w hbr rfl HA.out
      rw [hun] at hs
      have HS := Lib.hid hs
      clear hs hO5 HO HU HA HROW hlt
      go_wp2_with fail
      with_reducible refine HS.out.mono ?_
      rintro e w1 ⟨rfl, hr, hb⟩
      go_wp2
      go_ret
      exact ⟨_, rfl, hr, (fun n c e => by cases e), hb⟩
set_option maxHeartbeats 800000 in
theorem pSort_any (v : Value) (rs : List (List Vl)) (w : World) (L : Nat) (hv : RdR w L w.heap.size v rs) (hlen : rs.length ≤ 1099511627776) (hrow : ∀ r ∈ rs, r.length ≤ 2199023255552) :
    Calls Tryz.prog 7 #[v] w (RetR w (sortO [] rs)) := by
  have H := Lib.hid (sorted_any 22 #[] [] v rs w L hv hlen hrow (asks_compare w))
  obtain ⟨A, c, rfl, _⟩ := hv
  go_enter Tryz.func7, Tryz.ntmps7
  go_wp2_with fail
  with_reducible refine H.out.mono ?_
  rintro e w1 ⟨u, rfl, hr, hn, hb⟩
  go_wp2
  go_ret
  exact ⟨_, rfl, hr, hn, hb⟩
set_option maxHeartbeats 800000 in
theorem pOrder_any (v vo : Value) (rs : List (List Vl)) (o : List (Int × Bool)) (w : World) (L L2 : Nat) (hv : RdR w L w.heap.size v rs) (ho : RdO w L2 w.heap.size vo o) (hlen : rs.length ≤ 1099511627776) (hrow : ∀ r ∈ rs, r.length ≤ 2199023255552) :
    Calls Tryz.prog 14 #[v, vo] w (RetR w (sortO o rs)) := by
  have b1 := bel_mark w (.cells #[vo] 35)
  have hA := asks_closure w.heap.size vo o (w.alloc (.cells #[vo] 35)) L2 (by simp) ((Own.new w 35 #[vo]).cell 0) (ho.step b1 (Nat.le_refl _))
  have H := Lib.hid (sorted_any 27 #[.pointer (some ⟨w.heap.size, 0, none⟩)] o v rs (w.alloc (.cells #[vo] 35)) L (hv.step b1 (Nat.le_refl _)) hlen hrow hA)
  have B1 := Lib.hid b1
  obtain ⟨A, c, rfl, _⟩ := hv
  obtain ⟨A2, c2, rfl, _⟩ := ho
  clear hA b1
  go_enter Tryz.func14, Tryz.ntmps14
  go_wp2_with fail
  with_reducible refine H.out.mono ?_
  rintro e w1 ⟨u, rfl, hr, hn, hb⟩
  go_wp2
  go_ret
  exact ⟨_, rfl, hr.low (B1.out.size), hn, B1.out.trans (hb.mono B1.out.size)⟩
set_option maxHeartbeats 800000 in
theorem pEqual_any (u v : Value) (ps qs : List Vl) (w : World) (L L2 : Nat) (hu : RdV w L w.heap.size u ps) (hv : RdV w L2 w.heap.size v qs) :
    Calls Tryz.prog 19 #[u, v] w fun e w' => e = .returned (.bool (cmpR ps qs == 0)) ∧ Below w.heap.size w w' := by
  have H := Lib.hid (tupleCompare_any u v ps qs w L L2 hu hv)
  obtain ⟨A, c, rfl, _⟩ := hu
  obtain ⟨A2, c2, rfl, _⟩ := hv
  go_enter Tryz.func19, Tryz.ntmps19
  go_wp2_with fail
  with_reducible refine H.out.mono ?_
  rintro e w1 ⟨rfl, hb⟩
  go_wp2
  go_ret
  exact ⟨rfl, hb⟩
end Go.Proofs.YtimmfckkgdlokaaGreatDoor
/-
  tuple.Pick: what it answers. Conditions: lengths.
-/
namespace Go.Proofs.YtimmfckkgdlokaaGreatDoor
set_option maxRecDepth 100000
open Go.RowKit

theorem made_vals (n : Nat) : madeCells (Value.agg #[.int .i64 0, .int .i64 0, .string ⟨#[]⟩]).cells (n * 3) = rowC [] n := by
  unfold madeCells rowC
  have hz : (Value.agg #[.int .i64 0, .int .i64 0, .string ⟨#[]⟩]).cells = #[.int .i64 0, .int .i64 0, .string ⟨#[]⟩] := by kernel_rfl
  rw [hz]
  apply Array.ext
  · simp [flatV_len]
  · intro i h1 h2
    have hi : i < n * 3 := by simpa using h1
    have hk : i / 3 < n := by omega
    have hg : (List.replicate n zV)[i / 3]? = some zV := by rw [List.getElem?_replicate, if_pos hk]
    obtain ⟨g0, g1, g2⟩ := flatV_get _ _ _ hg
    simp only [List.length_nil, Nat.sub_zero, List.nil_append, Array.getElem_map, Array.getElem_range, List.getElem_toArray]
    have h3 : i = i / 3 * 3 ∨ i = i / 3 * 3 + 1 ∨ i = i / 3 * 3 + 2 := by omega
    have e : ∀ j u, (flatV (List.replicate n zV))[j]? = some u → ∀ h : j < (flatV (List.replicate n zV)).length, (flatV (List.replicate n zV))[j] = u := by
      intro j u hu h
      rw [List.getElem?_eq_getElem h] at hu
      exact Option.some.inj hu
    generalize i / 3 = k at *
    rcases h3 with rfl | rfl | rfl
    · rw [e _ _ g0]; simp; rfl
    · rw [e _ _ g1]; simp [Nat.add_mod]; rfl
    · rw [e _ _ g2]; simp [Nat.add_mod]; rfl
theorem made_rowC (W : World) (n : Nat) (hn : n ≤ 1099511627776) :
    (Instr.makeSlice 32 (.int .i64 (n : Nat)) (.int .i64 (n : Nat))).run Tryz.prog W = .ok (.slice (some ⟨W.heap.size, 0, none⟩) n n) (W.alloc (.cells (rowC [] n) 28)) := by
  obtain ⟨i0, hi, hz0, hz1, hz2⟩ := info_partsB infoV
  have h := run_make (P := Tryz.prog) (w := W) 32 28 i0 (.agg #[.int .i64 0, .int .i64 0, .string ⟨#[]⟩]) Tryz.underlying32 hi hz0 .i64 .i64 (n : Int) (n : Int) (by omega) (Int.le_refl _) (by rw [hz2]; omega) (by omega)
  rw [h, Int.toNat_natCast, hz1, made_vals]
set_option maxRecDepth 100000 in
set_option maxHeartbeats 3200000 in
theorem pPick_any (u v : Value) (ps : List Vl) (zs : List Int) (w : World) (L L2 : Nat) (hu : RdV w L w.heap.size u ps) (hv : RdI w L2 w.heap.size v zs) (hlen : zs.length ≤ 1099511627776) :
    Calls Tryz.prog 16 #[u, v] w (RetC w (zs.map (atP ps))) := by
  have HCOL := Lib.hid (fun (i : Int) W (h : Below w.heap.size w W) => column_any u ps i W L (hu.step h (Nat.le_refl _)))
  obtain ⟨A, c, rfl, hl1, q1⟩ := hu
  obtain ⟨A2, c2, rfl, hl2, hc2⟩ := hv
  have HC2 := Lib.hid hc2
  have hmk := made_rowC w zs.length hlen
  have HB2 := Lib.hid (bel_mark w (.cells (rowC [] zs.length) 28))
  have HO2 := Lib.hid (Own.new w 28 (rowC [] zs.length))
  clear q1 hc2
  go_enter Tryz.func16, Tryz.ntmps16
  go_wp2_with fail
  clear hmk
  go_loopw [13] (fun i wr => ∃ qs : List Vl, qs.length ≤ zs.length ∧ i = .int .i64 (qs.length : Nat) ∧ Hid (Own wr w.heap.size 28 (rowC qs zs.length)) ∧ Hid (qs = (zs.take qs.length).map (atP ps)) ∧ Below w.heap.size w wr) (fun i _ => zs.length - (intOf i).toNat)
  case atStart => exact ⟨[], Nat.zero_le _, rfl, Lib.hid HO2.out, Lib.hid rfl, HB2.out⟩
  case round =>
    obtain ⟨qs, hql, rfl, HO, HQ, hbr⟩ := hrel
    have hbz := hbr.size
    by_cases hlt : qs.length < zs.length
    · have hlti : (qs.length : Int) < zs.length := by omega
      obtain ⟨ad, rfl, _, hab, c0⟩ := HC2.out qs.length _ (List.getElem?_eq_getElem hlt)
      have d0 := (hbr.cell (p := ad.add qs.length) (by rw [add_block]; exact hab)).trans c0
      have HTK := Lib.hid (show zs.take (qs.length + 1) = zs.take qs.length ++ [zs[qs.length]] by rw [List.take_add_one, List.getElem?_eq_getElem hlt]; rfl)
      generalize zs[qs.length] = z at *
      have hcl := HCOL.out z wr hbr
      obtain ⟨p, hp⟩ : ∃ p, p = atP ps z := ⟨_, rfl⟩
      rw [← hp] at hcl
      have HP := Lib.hid hp
      clear hp c0
      obtain ⟨kd, n, s⟩ := p
      unfold valV at hcl
      have HCL := Lib.hid hcl
      obtain ⟨z0, z1, z2⟩ := rowC_next qs zs.length hlt
      have HRS := Lib.hid (rowC_set qs zs.length (kd, n, s) hlt)
      clear hcl
      go_wp2_with fail
      with_reducible refine HCL.out.mono ?_
      rintro e w1 ⟨rfl, hb1, _⟩
      have B3 := hbr.trans (hb1.mono hbz)
      have o3 := HO.out.below hb1 HO.out.lt
      have f0 := (o3.cell (qs.length * 3)).trans z0
      have f1 := (o3.cell (qs.length * 3 + 1)).trans z1
      have f2 := (o3.cell (qs.length * 3 + 2)).trans z2
      have e0 := o3.free (qs.length * 3)
      have e1 := o3.free (qs.length * 3 + 1)
      have e2 := o3.free (qs.length * 3 + 2)
      have o4 := ((o3.store (qs.length * 3) (.int .i64 kd)).store (qs.length * 3 + 1) (.int .i64 n)).store (qs.length * 3 + 2) (.string s)
      rw [HRS.out] at o4
      have HO4 := Lib.hid o4
      have HB4 := Lib.hid (((B3.setCell (p := ⟨w.heap.size, qs.length * 3, none⟩) (Nat.le_refl _) (.int .i64 kd)).setCell (p := ⟨w.heap.size, qs.length * 3 + 1, none⟩) (Nat.le_refl _) (.int .i64 n)).setCell (p := ⟨w.heap.size, qs.length * 3 + 2, none⟩) (Nat.le_refl _) (.string s))
      clear o3 o4 z0 z1 z2 HO B3 HRS HCL
      go_wp2
      go_roundw
      case rel => exact ⟨qs ++ [(kd, n, s)], by rw [List.length_append]; simp; omega, by rw [List.length_append]; first | rfl | go_num, HO4, Lib.hid (by rw [List.length_append]; show _ = List.map _ (List.take (qs.length + 1) zs); rw [HTK.out, List.map_append, ← HQ.out, HP.out]; rfl), HB4.out⟩
      case measure => simp [intOf]; omega
    · have hun : qs.length = zs.length := by omega
      have hni : ¬ (qs.length : Int) < zs.length := by omega
      have hO5 := HO.out
      rw [← hun] at hO5
      have hq2 := HQ.out
      rw [hun, List.take_length] at hq2
      have hq0 := rdV_row hO5 (by omega)
      have HF : RdN wr w.heap.size wr.heap.size (.slice (some ⟨w.heap.size, 0, none⟩) zs.length zs.length) (zs.map (atP ps)) := by
        refine ⟨?_, fun n c e => by cases e⟩
        rw [hun] at hq0
        obtain ⟨A, c, hv, hl, hc⟩ := hq0
        rw [← hq2]
        refine ⟨A, c, by rw [hv, hun], hl, fun k p hk => ?_⟩
        obtain ⟨ad, h1, _, h3⟩ := hc k p hk
        injection hv with h4 _ _
        refine ⟨ad, h1, ?_, h3⟩
        rw [← h4] at h1
        injection h1 with h1
        rw [← h1]; exact Nat.le_refl _
      have HF := Lib.hid HF
      clear hq0 hq2 hO5 HO HQ hlt
      go_wp2
      go_ret
      exact ⟨_, rfl, HF.out, hbr⟩
end Go.Proofs.YtimmfckkgdlokaaGreatDoor
/-
  The text of a row, of the program and of the reference. Conditions: lengths; the tables lie as the rows say.
-/
namespace Go.Proofs.YtimmfckkgdlokaaGreatDoor
set_option maxRecDepth 100000
open Go.RowKit

def litP (p : Vl) : List UInt8 := Va.litV p.1 p.2.1 p.2.2
def jnL (ps : List Vl) : List UInt8 := Lib.join (ps.map litP) [44, 32]
/-- The text of a row. -/
def textL (ps : List Vl) : List UInt8 := [40] ++ jnL ps ++ [41]
theorem litP_len (p : Vl) : (litP p).length ≤ 402 := by
  unfold litP Va.litV
  by_cases h : Va.vldV p.1 p.2.1 p.2.2 = true
  · rw [if_pos h]
    by_cases h0 : p.1 = 0
    · rw [if_pos h0]; simp
    rw [if_neg h0]
    by_cases h3 : p.1 = 3
    · rw [if_pos h3]; split <;> simp
    rw [if_neg h3]
    rcases Va.vld_kind h with ⟨g, _⟩ | ⟨g, g1, g2, _⟩ | ⟨g, _, g1, _⟩ | ⟨g, _⟩
    · exact absurd g h0
    · rw [if_neg (by omega)]
      have := Lib.itoa_length_le p.2.1 (by omega) (by omega)
      omega
    · rw [if_pos g]
      have h4 := (Va.dbl_len p.2.2.data.toList).1
      rw [← Lib.size_eq] at h4
      have h5 : Va.quo p.2.2.data.toList = [39] ++ Va.dbl p.2.2.data.toList ++ [39] := rfl
      rw [h5]
      simp
      omega
    · exact absurd g h3
  · rw [if_neg h]; simp
theorem jnL_cons (p : Vl) (t : List Vl) : jnL (p :: t) = litP p ++ Lib.joinTail [44, 32] (t.map litP) := by unfold jnL; rw [List.map_cons, Lib.join_cons]
theorem joinTail_len : ∀ l : List Vl, (Lib.joinTail [44, 32] (l.map litP)).length ≤ 404 * l.length
  | [] => by simp [Lib.joinTail]
  | p :: t => by
    have h := joinTail_len t
    have h2 := litP_len p
    have e : Lib.joinTail [44, 32] ((p :: t).map litP) = [44, 32] ++ litP p ++ Lib.joinTail [44, 32] (t.map litP) := by simp [Lib.joinTail]
    rw [e]
    simp only [List.length_append, List.length_cons, List.length_nil]
    omega
theorem jnL_len (l : List Vl) : (jnL l).length ≤ 404 * l.length := by
  cases l with
  | nil => simp [jnL, Lib.join_nil]
  | cons p t =>
    rw [jnL_cons]
    have h := joinTail_len t
    have h2 := litP_len p
    simp only [List.length_append, List.length_cons]
    omega
theorem jnL_snoc (l : List Vl) (p : Vl) : jnL (l ++ [p]) = if l.length = 0 then litP p else jnL l ++ [44, 32] ++ litP p := by
  cases l with
  | nil => show jnL [p] = _; rw [jnL_cons]; simp [Lib.joinTail]
  | cons q t =>
    rw [if_neg (by simp), List.cons_append, jnL_cons, jnL_cons, List.map_append]
    simp [Lib.joinTail, List.append_assoc]
theorem take_snocV (ps : List Vl) (k : Nat) (p : Vl) (h : ps[k]? = some p) : ps.take (k + 1) = ps.take k ++ [p] := by
  rw [List.take_add_one, h]; rfl
theorem catL (a b : List UInt8) : ByteArray.mk a.toArray ++ ByteArray.mk b.toArray = ByteArray.mk (a ++ b).toArray := by
  simp only [ByteArray.mk_append_mk]
  try rw [List.append_toArray]
/-- The cells of a row of n strings of which those of ss are set. -/
def rowS (ss : List ByteArray) (n : Nat) : Array Value := ((ss ++ List.replicate (n - ss.length) (ByteArray.mk #[])).map Value.string).toArray
theorem rowS_next (ss : List ByteArray) (n : Nat) (h : ss.length < n) : (rowS ss n)[ss.length]? = some (Value.string ⟨#[]⟩) := by
  unfold rowS
  simp only [List.getElem?_toArray, List.getElem?_map]
  rw [List.getElem?_append_right (Nat.le_refl _), Nat.sub_self, List.getElem?_replicate, if_pos (by omega)]
  rfl
theorem rowS_set (ss : List ByteArray) (n : Nat) (u : ByteArray) (h : ss.length < n) : (rowS ss n).setIfInBounds ss.length (.string u) = rowS (ss ++ [u]) n := by
  unfold rowS
  rw [List.setIfInBounds_toArray]
  congr 1
  rw [← List.map_set, List.set_append_right _ _ (Nat.le_refl _), Nat.sub_self, show n - ss.length = (n - (ss ++ [u]).length) + 1 by rw [List.length_append]; simp; omega]
  simp [List.replicate_succ]
theorem rowS_get (ss : List ByteArray) (k : Nat) (u : ByteArray) (h : ss[k]? = some u) : (rowS ss ss.length)[k]? = some (Value.string u) := by
  unfold rowS
  simp only [List.getElem?_toArray, List.getElem?_map, Nat.sub_self, List.replicate_zero, List.append_nil, h, Option.map_some]
theorem infoS : (Tryz.prog.info? 9).map (fun i => (i.zero, i.size, i.bytes)) = some (some (.string ⟨#[]⟩), 1, 16) := by kernel_rfl
theorem made_rowS (W : World) (n : Nat) (hn : n ≤ 1099511627776) :
    (Instr.makeSlice 48 (.int .i64 (n : Nat)) (.int .i64 (n : Nat))).run Tryz.prog W = .ok (.slice (some ⟨W.heap.size, 0, none⟩) n n) (W.alloc (.cells (rowS [] n) 9)) := by
  obtain ⟨i0, hi, hz0, hz1, hz2⟩ := info_partsB infoS
  have h := run_make (P := Tryz.prog) (w := W) 48 9 i0 (.string ⟨#[]⟩) Tryz.underlying48 hi hz0 .i64 .i64 (n : Int) (n : Int) (by omega) (Int.le_refl _) (by rw [hz2]; omega) (by omega)
  rw [h, Int.toNat_natCast, hz1]
  have hr : madeCells (Value.string ⟨#[]⟩).cells (n * 1) = rowS [] n := by
    rw [made_nth _ _ rfl]
    unfold rowS
    simp
  rw [hr]
set_option maxRecDepth 100000 in
set_option maxHeartbeats 3200000 in
theorem pTextR_any (v : Value) (ps : List Vl) (w : World) (L : Nat) (hv : RdV w L w.heap.size v ps) (hE : Va.Env w) (hlen : ps.length ≤ 274877906944) :
    Calls Tryz.prog 17 #[v] w fun e w' => e = .returned (.string ⟨(textL ps).toArray⟩) ∧ Below w.heap.size w w' := by
  obtain ⟨A, c, rfl, hl1, hc1⟩ := hv
  have HC := Lib.hid hc1
  have HE := Lib.hid hE
  have hmk := made_rowS w ps.length (by omega)
  have HB2 := Lib.hid (bel_mark w (.cells (rowS [] ps.length) 9))
  have HO2 := Lib.hid (Own.new w 9 (rowS [] ps.length))
  clear hc1 hE
  go_enter Tryz.func17, Tryz.ntmps17
  go_wp2_with fail
  clear hmk
  go_loopw [11] (fun i wr => ∃ ss : List ByteArray, ss.length ≤ ps.length ∧ i = .int .i64 (ss.length : Nat) ∧ Hid (Own wr w.heap.size 9 (rowS ss ps.length)) ∧ Hid (ss = (ps.take ss.length).map (fun p => ⟨(litP p).toArray⟩)) ∧ Below w.heap.size w wr) (fun i _ => ps.length - (intOf i).toNat)
  case atStart => exact ⟨[], Nat.zero_le _, rfl, Lib.hid HO2.out, Lib.hid rfl, HB2.out⟩
  case round =>
    obtain ⟨ss, hsl, rfl, HO, HS, hbr⟩ := hrel
    have hbz := hbr.size
    by_cases hlt : ss.length < ps.length
    · have hlti : (ss.length : Int) < ps.length := by omega
      obtain ⟨ad, rfl, _, hab, c0, c1, c2⟩ := HC.out ss.length _ (List.getElem?_eq_getElem hlt)
      have d0 := (hbr.cell (p := ad.add (ss.length * 3)) (by rw [add_block]; exact hab)).trans c0
      have d1 := (hbr.cell (p := ⟨(ad.add (ss.length * 3)).block, (ad.add (ss.length * 3)).off + 1, none⟩) (by show (ad.add (ss.length * 3)).block < _; rw [add_block]; exact hab)).trans c1
      have d2 := (hbr.cell (p := ⟨(ad.add (ss.length * 3)).block, (ad.add (ss.length * 3)).off + 2, none⟩) (by show (ad.add (ss.length * 3)).block < _; rw [add_block]; exact hab)).trans c2
      have HGET := Lib.hid (take_snocV ps ss.length _ (List.getElem?_eq_getElem hlt))
      generalize ps[ss.length] = p at *
      obtain ⟨kd, n, s⟩ := p
      dsimp only at d0 d1 d2
      have HL := Lib.hid (fun W (h : Below w.heap.size w W) => Va.pLiteral_any kd n s W (HE.out.step h))
      obtain ⟨lt, hlp⟩ : ∃ lt, lt = litP (kd, n, s) := ⟨_, rfl⟩
      rw [show Va.litV kd n s = litP (kd, n, s) from rfl, ← hlp] at HL
      have HLP := Lib.hid hlp
      clear hlp
      have HBX := Lib.hid (hbr.trans ((bel_mark wr (.cells #[.int .i64 kd, .int .i64 n, .string s] 28)).mono hbz))
      have HZX := Lib.hid (bel_mark wr (.cells #[.int .i64 kd, .int .i64 n, .string s] 28))
      have z0 := rowS_next ss ps.length hlt
      clear c0 c1 c2
      unfold Va.vV at HL
      go_wp2_with fail
      with_reducible refine (HL.out _ HBX.out).mono ?_
      rintro e w1 ⟨rfl, hb1⟩
      have B3 := HBX.out.trans (hb1.mono HBX.out.size)
      have o3 := (HO.out.below HZX.out HO.out.lt).below hb1 (by have := HO.out.lt; have := HZX.out.size; omega)
      have f0 := (o3.cell ss.length).trans z0
      have e0 := o3.free ss.length
      have o4 := o3.store ss.length (.string ⟨lt.toArray⟩)
      rw [rowS_set ss ps.length ⟨lt.toArray⟩ hlt] at o4
      have HO4 := Lib.hid o4
      have HB4 := Lib.hid (B3.setCell (p := ⟨w.heap.size, ss.length, none⟩) (Nat.le_refl _) (.string ⟨lt.toArray⟩))
      clear o3 o4 z0 HO B3 HL
      go_wp2
      go_roundw
      case rel => exact ⟨ss ++ [⟨lt.toArray⟩], by rw [List.length_append]; simp; omega, by rw [List.length_append]; first | rfl | go_num, HO4, Lib.hid (by rw [List.length_append]; show _ = List.map _ (List.take (ss.length + 1) ps); rw [HGET.out, List.map_append, ← HS.out]; show _ = ss ++ [⟨(litP (kd, n, s)).toArray⟩]; rw [← HLP.out]), HB4.out⟩
      case measure => simp [intOf]; omega
    · have hun : ss.length = ps.length := by omega
      have hni : ¬ (ss.length : Int) < ps.length := by omega
      have hO5 := HO.out
      rw [← hun] at hO5
      have hS2 := HS.out
      rw [hun, List.take_length] at hS2
      have hmap : ss.map (·.data.toList) = ps.map litP := by rw [hS2, List.map_map]; exact List.map_congr_left fun p _ => rfl
      have hjl := jnL_len ps
      have hJ := Tryz.strings_Join w.heap.size 0 ss.length ss ⟨#[44, 32]⟩ wr (fun j x hx => by rw [Nat.zero_add]; exact (hO5.cell j).trans (rowS_get ss j x hx)) hO5.lt (by omega) (Nat.le_refl _) (by rw [hmap]; show (jnL ps).length ≤ _; omega)
      rw [hmap, show Lib.join (ps.map litP) (ByteArray.mk #[44, 32]).data.toList = jnL ps from rfl, hun] at hJ
      have HJ := Lib.hid hJ
      have HT := Lib.hid (show textL ps = [40] ++ jnL ps ++ [41] from rfl)
      have hsz : (ByteArray.mk (jnL ps).toArray).size ≤ 140737488355000 := by rw [Va.size_toArray]; omega
      have hsz2 : (jnL ps).length ≤ 140737488355000 := by omega
      generalize jnL ps = jl at *
      clear hJ hmap hjl hS2 hO5 HO HS hlt
      go_wp2_with fail
      with_reducible refine HJ.out.mono ?_
      rintro e w1 ⟨rfl, hb⟩
      go_wp2
      go_ret
      refine ⟨Va.ret_str ?_, hbr.trans (hb.mono hbz)⟩
      rw [HT.out, ← catL, ← catL]
end Go.Proofs.YtimmfckkgdlokaaGreatDoor
