import Derived.Test.YtbpjgipldddcfaaGF
/-
  Mathematics of merging two sorted lists of steps: the instants visited, the values there. Conditions: none.
-/
namespace Go.Proofs.Ytbpjgipldddcfaa
set_option maxRecDepth 100000
set_option linter.unusedVariables false
set_option linter.unusedSimpArgs false
open Go.RowKit

/-- Sorted by instants. -/
def srt (l : List (Int × Int)) : Prop := l.Pairwise (fun p q => p.1 ≤ q.1)
theorem srt_drop {l : List (Int × Int)} (h : srt l) (k : Nat) : srt (l.drop k) := List.Pairwise.sublist (List.drop_sublist k l) h
theorem stT_srt : ∀ (l : List (Int × Int)) (x n : Int), stT x n l = true → (∀ p ∈ l, x < p.1) ∧ srt l
  | [], _, _, _ => ⟨fun _ h => (by cases h), List.Pairwise.nil⟩
  | (y, m) :: l, x, n, h => by
    obtain ⟨h1, _, _, h4⟩ := stT_cons.1 h
    obtain ⟨i1, i2⟩ := stT_srt l y m h4
    refine ⟨fun p hp => ?_, List.pairwise_cons.2 ⟨fun p hp => by have := i1 p hp; show y ≤ p.1; omega, i2⟩⟩
    rcases List.mem_cons.1 hp with rfl | hp
    · exact h1
    · have := i1 p hp; omega
theorem stV_srt {l : List (Int × Int)} (h : stV l = true) : srt l := by
  cases l with
  | nil => cases h
  | cons p l =>
    obtain ⟨x, n⟩ := p
    have h2 : (decide (x = 0) && stT x n l) = true := h
    rw [Bool.and_eq_true] at h2
    obtain ⟨i1, i2⟩ := stT_srt l x n h2.2
    exact List.pairwise_cons.2 ⟨fun p hp => by have := i1 p hp; show x ≤ p.1; omega, i2⟩
/-- The steps that are reached at t, and those behind them. -/
theorem rch_parts : ∀ {l : List (Int × Int)} (t : Int), srt l → (∀ p ∈ l.take (rch l t), p.1 ≤ t) ∧ (∀ p ∈ l.drop (rch l t), t < p.1)
  | [], t, _ => ⟨fun p h => by simp at h, fun p h => by simp at h⟩
  | q :: l, t, h => by
    obtain ⟨h1, h2⟩ := List.pairwise_cons.1 h
    by_cases hq : q.1 ≤ t
    · have hr : rch (q :: l) t = rch l t + 1 := by unfold rch; rw [List.takeWhile_cons, if_pos (by simpa using hq)]; rfl
      obtain ⟨i1, i2⟩ := rch_parts (l := l) t h2
      rw [hr]
      refine ⟨fun p hp => ?_, fun p hp => i2 p (by simpa using hp)⟩
      rw [List.take_succ_cons] at hp
      rcases List.mem_cons.1 hp with rfl | hp
      · exact hq
      · exact i1 p hp
    · have hr : rch (q :: l) t = 0 := by unfold rch; rw [List.takeWhile_cons, if_neg (by simpa using hq)]; rfl
      rw [hr]
      refine ⟨fun p hp => by simp at hp, fun p hp => ?_⟩
      rw [List.drop_zero] at hp
      rcases List.mem_cons.1 hp with rfl | hp
      · omega
      · have := h1 p hp; omega
theorem fstT_le {l : List (Int × Int)} (h : srt l) : ∀ p ∈ l, fstT l ≤ p.1 := by
  cases l with
  | nil => intro p hp; cases hp
  | cons q l =>
    intro p hp
    rcases List.mem_cons.1 hp with rfl | hp
    · exact Int.le_refl _
    · exact (List.pairwise_cons.1 h).1 p hp
theorem fstT_mem {l : List (Int × Int)} (h : l ≠ []) : ∃ p ∈ l, p.1 = fstT l := by
  cases l with
  | nil => exact absurd rfl h
  | cons q l => exact ⟨q, by simp, rfl⟩
/-- What holds ahead of a visit: i and j steps are done, at the points P. -/
structure MInv (A B : List (Int × Int)) (i j : Nat) (P : List Int) : Prop where
  hi : i ≤ A.length
  hj : j ≤ B.length
  asc : P.Pairwise (· < ·)
  mem : ∀ x, x ∈ P ↔ (∃ p ∈ A.take i, p.1 = x) ∨ (∃ p ∈ B.take j, p.1 = x)
  loA : ∀ x ∈ P, ∀ p ∈ A.drop i, x < p.1
  loB : ∀ x ∈ P, ∀ p ∈ B.drop j, x < p.1
theorem MInv.start (A B : List (Int × Int)) : MInv A B 0 0 [] where
  hi := Nat.zero_le _
  hj := Nat.zero_le _
  asc := .nil
  mem x := by simp
  loA x h := by cases h
  loB x h := by cases h
/-- The instant of the next visit. -/
def nxA (A B : List (Int × Int)) (i j : Nat) : Int := min (fstT (A.drop i)) (fstT (B.drop j))
theorem take_add_drop {α : Type} (l : List α) (i n : Nat) : l.take (i + n) = l.take i ++ (l.drop i).take n := by rw [List.take_add]
theorem MInv.next {A B : List (Int × Int)} {i j : Nat} {P : List Int} (h : MInv A B i j P) (hA : srt A) (hB : srt B) (hl : ∀ p ∈ A ++ B, p.1 < 9223372036854775807) (hne : i < A.length ∨ j < B.length) :
    MInv A B (i + rch (A.drop i) (nxA A B i j)) (j + rch (B.drop j) (nxA A B i j)) (P ++ [nxA A B i j]) ∧ (∀ p ∈ (A.drop i).take (rch (A.drop i) (nxA A B i j)), p.1 = nxA A B i j) ∧ (∀ p ∈ (B.drop j).take (rch (B.drop j) (nxA A B i j)), p.1 = nxA A B i j) := by
  have sA := srt_drop hA i
  have sB := srt_drop hB j
  have hat : (∀ p ∈ A.drop i, nxA A B i j ≤ p.1) ∧ (∀ p ∈ B.drop j, nxA A B i j ≤ p.1) := ⟨fun p hp => by have := fstT_le sA p hp; unfold nxA; omega, fun p hp => by have := fstT_le sB p hp; unfold nxA; omega⟩
  have hex : (∃ p ∈ A.drop i, p.1 = nxA A B i j) ∨ (∃ p ∈ B.drop j, p.1 = nxA A B i j) := by
    by_cases ha : A.drop i = []
    · have hb : B.drop j ≠ [] := by
        intro hb
        have h1 := List.length_drop (i := i) (l := A)
        have h2 := List.length_drop (i := j) (l := B)
        rw [ha] at h1
        rw [hb] at h2
        simp at h1 h2
        omega
      obtain ⟨p, hp, he⟩ := fstT_mem hb
      have hpl := hl p (List.mem_append.2 (.inr (List.mem_of_mem_drop hp)))
      refine .inr ⟨p, hp, ?_⟩
      unfold nxA
      rw [ha, ← he]
      show p.1 = min 9223372036854775807 p.1
      omega
    · obtain ⟨p, hp, he⟩ := fstT_mem ha
      by_cases hb : B.drop j = []
      · have hpl := hl p (List.mem_append.2 (.inl (List.mem_of_mem_drop hp)))
        refine .inl ⟨p, hp, ?_⟩
        unfold nxA
        rw [hb, ← he]
        show p.1 = min p.1 9223372036854775807
        omega
      · obtain ⟨q, hq, hf⟩ := fstT_mem hb
        by_cases hle : fstT (A.drop i) ≤ fstT (B.drop j)
        · exact .inl ⟨p, hp, by unfold nxA; omega⟩
        · exact .inr ⟨q, hq, by unfold nxA; omega⟩
  generalize nxA A B i j = t at *
  obtain ⟨a1, a2⟩ := rch_parts t sA
  obtain ⟨b1, b2⟩ := rch_parts t sB
  have lA := rch_le (A.drop i) t
  have lB := rch_le (B.drop j) t
  rw [List.length_drop] at lA lB
  have hi0 := h.hi
  have hj0 := h.hj
  have eA : ∀ p ∈ (A.drop i).take (rch (A.drop i) t), p.1 = t := fun p hp => by have h1 := a1 p hp; have h2 := hat.1 p (List.mem_of_mem_take hp); omega
  have eB : ∀ p ∈ (B.drop j).take (rch (B.drop j) t), p.1 = t := fun p hp => by have h1 := b1 p hp; have h2 := hat.2 p (List.mem_of_mem_take hp); omega
  have hPt : ∀ x ∈ P, x < t := fun x hx => by
    rcases hex with ⟨p, hp, rfl⟩ | ⟨p, hp, rfl⟩
    · exact h.loA x hx p hp
    · exact h.loB x hx p hp
  have dA : A.drop (i + rch (A.drop i) t) = (A.drop i).drop (rch (A.drop i) t) := by rw [List.drop_drop]
  have dB : B.drop (j + rch (B.drop j) t) = (B.drop j).drop (rch (B.drop j) t) := by rw [List.drop_drop]
  refine ⟨⟨by omega, by omega, ?_, ?_, ?_, ?_⟩, eA, eB⟩
  · rw [List.pairwise_append]
    exact ⟨h.asc, by simp, fun x hx y hy => by simp at hy; subst hy; exact hPt x hx⟩
  · intro x
    rw [List.mem_append, h.mem x, take_add_drop, take_add_drop]
    constructor
    · rintro ((⟨p, hp, he⟩ | ⟨p, hp, he⟩) | hx)
      · exact .inl ⟨p, List.mem_append.2 (.inl hp), he⟩
      · exact .inr ⟨p, List.mem_append.2 (.inl hp), he⟩
      · simp at hx
        subst hx
        rcases hex with ⟨p, hp, he⟩ | ⟨p, hp, he⟩
        · refine .inl ⟨p, List.mem_append.2 (.inr ?_), he⟩
          rw [← List.take_append_drop (rch (A.drop i) x) (A.drop i)] at hp
          rcases List.mem_append.1 hp with hp | hp
          · exact hp
          · have := a2 p hp; omega
        · refine .inr ⟨p, List.mem_append.2 (.inr ?_), he⟩
          rw [← List.take_append_drop (rch (B.drop j) x) (B.drop j)] at hp
          rcases List.mem_append.1 hp with hp | hp
          · exact hp
          · have := b2 p hp; omega
    · rintro (⟨p, hp, he⟩ | ⟨p, hp, he⟩)
      · rcases List.mem_append.1 hp with hp | hp
        · exact .inl (.inl ⟨p, hp, he⟩)
        · exact .inr (by rw [← he, eA p hp]; simp)
      · rcases List.mem_append.1 hp with hp | hp
        · exact .inl (.inr ⟨p, hp, he⟩)
        · exact .inr (by rw [← he, eB p hp]; simp)
  · intro x hx p hp
    rw [dA] at hp
    have h1 := a2 p hp
    rcases List.mem_append.1 hx with hx | hx
    · have := hPt x hx; omega
    · simp at hx; omega
  · intro x hx p hp
    rw [dB] at hp
    have h1 := b2 p hp
    rcases List.mem_append.1 hx with hx | hx
    · have := hPt x hx; omega
    · simp at hx; omega
/-- The value at t is that of the steps done, where those lie at t or before and the others behind. -/
theorem val_done {l : List (Int × Int)} {i : Nat} {t : Int} (a : Int) (h1 : ∀ p ∈ l.take i, p.1 ≤ t) (h2 : ∀ p ∈ l.drop i, t < p.1) : valF a l t = lastN a (l.take i) := by
  have e1 : ∀ (m : List (Int × Int)) (a : Int), (∀ p ∈ m, p.1 ≤ t) → valF a m t = lastN a m := by
    intro m
    induction m with
    | nil => intro a _; rfl
    | cons p m ih =>
      intro a h
      rw [valF_cons, if_pos (h p (by simp)), ih _ (fun q hq => h q (List.mem_cons_of_mem _ hq))]
      rfl
  have e2 : ∀ (m : List (Int × Int)) (a : Int), (∀ p ∈ m, t < p.1) → valF a m t = a := by
    intro m
    induction m with
    | nil => intro a _; rfl
    | cons p m ih =>
      intro a h
      rw [valF_cons, if_neg (by have := h p (by simp); omega)]
      exact ih _ (fun q hq => h q (List.mem_cons_of_mem _ hq))
  conv => lhs; rw [← List.take_append_drop i l]
  unfold valF
  rw [List.foldl_append]
  show valF (valF a (l.take i) t) (l.drop i) t = _
  rw [e1 _ a h1, e2 _ _ h2]
theorem lastN_append (a : Int) (l m : List (Int × Int)) : lastN a (l ++ m) = lastN (lastN a l) m := by unfold lastN; rw [List.foldl_append]
theorem insAll_facts : ∀ (l : List (Int × Int)) (acc : List Int), acc.Pairwise (· < ·) → (insAll acc l).Pairwise (· < ·) ∧ ∀ x, x ∈ insAll acc l ↔ x ∈ acc ∨ ∃ p ∈ l, p.1 = x
  | [], acc, h => ⟨h, fun x => by simp [insAll]⟩
  | p :: l, acc, h => by
    obtain ⟨h1, h2⟩ := insAll_facts l (insI p.1 acc) (insI_sorted h)
    refine ⟨h1, fun x => ?_⟩
    show x ∈ insAll (insI p.1 acc) l ↔ _
    rw [h2 x, insI_mem]
    constructor
    · rintro ((rfl | hx) | ⟨q, hq, he⟩)
      · exact .inr ⟨p, by simp, rfl⟩
      · exact .inl hx
      · exact .inr ⟨q, List.mem_cons_of_mem _ hq, he⟩
    · rintro (hx | ⟨q, hq, he⟩)
      · exact .inl (.inr hx)
      · rcases List.mem_cons.1 hq with rfl | hq
        · exact .inl (.inl he.symm)
        · exact .inr ⟨q, hq, he⟩
/-- At the end all points are visited: those of the reference. -/
theorem MInv.all {A B : List (Int × Int)} {P : List Int} (h : MInv A B A.length B.length P) : P = ptsS A B := by
  obtain ⟨a1, a2⟩ := insAll_facts A [] .nil
  obtain ⟨b1, b2⟩ := insAll_facts B (insAll [] A) a1
  refine sorted_ext h.asc b1 fun x => ?_
  rw [h.mem x, List.take_length, List.take_length]
  unfold ptsS
  rw [b2 x, a2 x]
  simp
end Go.Proofs.Ytbpjgipldddcfaa
