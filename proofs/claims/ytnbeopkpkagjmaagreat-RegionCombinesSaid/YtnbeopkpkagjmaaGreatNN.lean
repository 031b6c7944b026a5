import Derived.Test.YtnbeopkpkagjmaaGreatNM
/-
  The program's sweep over rectangles: bounds in any ascending order, the open valid times kept sorted, joined. Conditions: none.
-/
namespace Go.Proofs.YtnbeopkpkagjmaaGreat
set_option maxRecDepth 100000
set_option linter.unusedVariables false
set_option linter.unusedSimpArgs false

/-! Sorted lists of periods. -/
def ltP (p q : Int × Int) : Bool := decide (p.1 < q.1) || (decide (p.1 = q.1) && decide (p.2 < q.2))
def insP (p : Int × Int) (l : List (Int × Int)) : List (Int × Int) := l.takeWhile (fun q => ltP q p) ++ p :: l.dropWhile (fun q => ltP q p)
def remP (p : Int × Int) (l : List (Int × Int)) : List (Int × Int) := l.takeWhile (fun q => ltP q p) ++ (l.dropWhile (fun q => ltP q p)).drop 1
def SrtP (l : List (Int × Int)) : Prop := l.Pairwise fun p q => ltP q p = false
theorem ltP_self (p : Int × Int) : ltP p p = false := by simp [ltP]
theorem ltP_iff {p q : Int × Int} : ltP p q = true ↔ p.1 < q.1 ∨ p.1 = q.1 ∧ p.2 < q.2 := by simp [ltP]
theorem ltP_neg {p q : Int × Int} : ltP p q = false ↔ ¬ (p.1 < q.1 ∨ p.1 = q.1 ∧ p.2 < q.2) := by rw [← ltP_iff]; simp
theorem ltP_anti {p q : Int × Int} (h : ltP p q = false) (h2 : ltP q p = false) : p = q := by
  rw [ltP_neg] at h h2
  exact Prod.ext (by omega) (by omega)
theorem ltP_le {p x q : Int × Int} (h : ltP x p = false) (h2 : ltP q x = false) : ltP q p = false := by
  rw [ltP_neg] at *
  omega
theorem ins_count (p : Int × Int) (l : List (Int × Int)) (q : Int × Int) : (insP p l).count q = l.count q + if p = q then 1 else 0 := by
  have h : l.count q = (l.takeWhile (fun q => ltP q p)).count q + (l.dropWhile (fun q => ltP q p)).count q := by rw [← List.count_append, List.takeWhile_append_dropWhile]
  unfold insP
  rw [List.count_append, List.count_cons, h]
  by_cases hq : p = q
  · simp [hq]; omega
  · simp [hq]
theorem ins_mem {p q : Int × Int} {l : List (Int × Int)} : q ∈ insP p l ↔ q = p ∨ q ∈ l := by
  have h : q ∈ l ↔ q ∈ l.takeWhile (fun q => ltP q p) ∨ q ∈ l.dropWhile (fun q => ltP q p) := by rw [← List.mem_append, List.takeWhile_append_dropWhile]
  unfold insP
  rw [List.mem_append, List.mem_cons, h]
  constructor
  · rintro (h | h | h)
    · exact .inr (.inl h)
    · exact .inl h
    · exact .inr (.inr h)
  · rintro (h | h | h)
    · exact .inr (.inl h)
    · exact .inl h
    · exact .inr (.inr h)
theorem ins_nil (p : Int × Int) : insP p [] = [p] := rfl
theorem ins_cons (p x : Int × Int) (l : List (Int × Int)) : insP p (x :: l) = if ltP x p then x :: insP p l else p :: x :: l := by
  unfold insP
  rw [List.takeWhile_cons, List.dropWhile_cons]
  cases h : ltP x p <;> simp
theorem ins_sorted (p : Int × Int) : ∀ l : List (Int × Int), SrtP l → SrtP (insP p l)
  | [], _ => by rw [ins_nil]; exact List.pairwise_singleton ..
  | x :: l, h => by
    have h1 := List.pairwise_cons.1 h
    rw [ins_cons]
    cases hx : ltP x p
    · rw [if_neg (by simp)]
      refine List.pairwise_cons.2 ⟨fun q hq => ?_, h⟩
      rcases List.mem_cons.1 hq with rfl | hq
      · exact hx
      · exact ltP_le hx (h1.1 q hq)
    · rw [if_pos rfl]
      refine List.pairwise_cons.2 ⟨fun q hq => ?_, ins_sorted p l h1.2⟩
      rcases ins_mem.1 hq with rfl | hq
      · have := ltP_iff.1 hx
        rw [ltP_neg]; omega
      · exact h1.1 q hq
theorem rem_spec (p : Int × Int) : ∀ l : List (Int × Int), SrtP l → p ∈ l → l.dropWhile (fun q => ltP q p) = p :: (l.dropWhile (fun q => ltP q p)).drop 1
  | [], _, h => by simp at h
  | x :: l, hs, h => by
    have h1 := List.pairwise_cons.1 hs
    rw [List.dropWhile_cons]
    cases hx : ltP x p
    · rw [if_neg (by simp)]
      rcases List.mem_cons.1 h with rfl | h
      · rfl
      · rw [ltP_anti (h1.1 p h) hx]; rfl
    · rw [if_pos rfl]
      refine rem_spec p l h1.2 ?_
      rcases List.mem_cons.1 h with rfl | h
      · rw [ltP_self] at hx; cases hx
      · exact h
theorem rem_count {p : Int × Int} {l : List (Int × Int)} (hs : SrtP l) (hp : p ∈ l) (q : Int × Int) : (remP p l).count q + (if p = q then 1 else 0) = l.count q := by
  have h : l.count q = (l.takeWhile (fun q => ltP q p)).count q + (l.dropWhile (fun q => ltP q p)).count q := by rw [← List.count_append, List.takeWhile_append_dropWhile]
  rw [rem_spec p l hs hp, List.count_cons] at h
  unfold remP
  rw [List.count_append, h]
  by_cases hq : p = q
  · simp [hq]; omega
  · simp [hq]
theorem rem_sorted {p : Int × Int} {l : List (Int × Int)} (hs : SrtP l) : SrtP (remP p l) := by
  have h : (remP p l).Sublist (l.takeWhile (fun q => ltP q p) ++ l.dropWhile (fun q => ltP q p)) := (List.Sublist.refl _).append (List.drop_sublist 1 _)
  rw [List.takeWhile_append_dropWhile] at h
  exact hs.sublist h

/-! Bounds, and what is open. -/
abbrev Bo := Int × Int × Bool × (Int × Int)
def bndR (j : Int) (l : List Rc) : List Bo := l.flatMap fun r => if sndR r then [(r.2.1, j, true, r.1), (r.2.2, j, false, r.1)] else []
theorem bndR_cons (j : Int) (r : Rc) (l : List Rc) : bndR j (r :: l) = (if sndR r then [(r.2.1, j, true, r.1), (r.2.2, j, false, r.1)] else []) ++ bndR j l := by simp [bndR]
theorem bndR_snoc (j : Int) (l : List Rc) (r : Rc) : bndR j (l ++ [r]) = bndR j l ++ (if sndR r then [(r.2.1, j, true, r.1), (r.2.2, j, false, r.1)] else []) := by simp [bndR]
theorem bndR_len (j : Int) : ∀ l : List Rc, (bndR j l).length ≤ 2 * l.length
  | [] => by simp [bndR]
  | r :: l => by
    have := bndR_len j l
    rw [bndR_cons, List.length_append, List.length_cons]
    split <;> simp <;> omega
def ostep (j : Int) (o : List (Int × Int)) (d : Bo) : List (Int × Int) := if d.2.1 = j then (if d.2.2.1 = true then insP d.2.2.2 o else remP d.2.2.2 o) else o
def opn (j : Int) (D : List Bo) : List (Int × Int) := D.foldl (ostep j) []
theorem opn_snoc (j : Int) (D : List Bo) (d : Bo) : opn j (D ++ [d]) = ostep j (opn j D) d := by unfold opn; rw [List.foldl_append]; rfl
def isB (j : Int) (p : Int × Int) (b : Bool) (d : Bo) : Bool := decide (d.2.1 = j) && (d.2.2.1 == b) && decide (d.2.2.2 = p)
theorem snd_lt {r : Rc} (h : sndR r = true) : r.2.1 < r.2.2 := by
  unfold sndR at h
  rw [Bool.and_eq_true] at h
  exact (vld_iff.1 h.2).2.1
theorem other_zero {i j : Int} (h : i ≠ j) (p : Int × Int) (b : Bool) (f : Bo → Bool) (l : List Rc) : (bndR i l).countP (fun d => isB j p b d && f d) = 0 := by
  rw [List.countP_eq_zero]
  intro d hd
  unfold bndR at hd
  obtain ⟨r, _, hr⟩ := List.mem_flatMap.1 hd
  split at hr
  · simp at hr
    rcases hr with rfl | rfl <;> simp [isB, h]
  · simp at hr
theorem ends_le (i j : Int) (p : Int × Int) (x : Int) : ∀ l : List Rc, (bndR i l).countP (fun d => isB j p false d && decide (d.1 ≤ x)) ≤ (bndR i l).countP (fun d => isB j p true d && decide (d.1 < x))
  | [] => by simp [bndR]
  | r :: l => by
    have ih := ends_le i j p x l
    rw [bndR_cons, List.countP_append, List.countP_append]
    generalize (bndR i l).countP (fun d => isB j p false d && decide (d.1 ≤ x)) = A at *
    generalize (bndR i l).countP (fun d => isB j p true d && decide (d.1 < x)) = B at *
    by_cases h : sndR r = true
    · have hlt := snd_lt h
      rw [if_pos h]
      by_cases hi : i = j
      · by_cases hp : r.1 = p
        · by_cases h1 : r.2.2 ≤ x
          · have h2 : r.2.1 < x := by omega
            simp [List.countP_cons, isB, hi, hp, h1, h2]; omega
          · simp [List.countP_cons, isB, hi, hp, h1]; omega
        · simp [List.countP_cons, isB, hp]; omega
      · simp [List.countP_cons, isB, hi]; omega
    · rw [if_neg h]
      simpa using ih
theorem at_count (j : Int) (p : Int × Int) (x : Int) : ∀ l : List Rc, (bndR j l).countP (fun d => isB j p true d && decide (d.1 ≤ x)) = (bndR j l).countP (fun d => isB j p false d && decide (d.1 ≤ x)) + (atS l x).count p
  | [] => by simp [bndR, atS]
  | r :: l => by
    have ih := at_count j p x l
    have ha : (atS (r :: l) x).count p = (atS l x).count p + if sndR r = true ∧ cnt r.2.1 r.2.2 x = true ∧ r.1 = p then 1 else 0 := by
      unfold atS
      rw [List.filter_cons]
      cases h : sndR r
      · simp
      · cases h2 : cnt r.2.1 r.2.2 x
        · simp
        · by_cases hp : r.1 = p
          · simp [hp]
          · simp [hp, List.count_cons]
    rw [bndR_cons, List.countP_append, List.countP_append, ha]
    generalize (bndR j l).countP (fun d => isB j p true d && decide (d.1 ≤ x)) = A at *
    generalize (bndR j l).countP (fun d => isB j p false d && decide (d.1 ≤ x)) = B at *
    generalize (atS l x).count p = C at *
    by_cases h : sndR r = true
    · have hlt := snd_lt h
      have hv : vld r.2.1 r.2.2 = true := by unfold sndR at h; rw [Bool.and_eq_true] at h; exact h.2
      rw [if_pos h]
      have hc : cnt r.2.1 r.2.2 x = (decide (r.2.1 ≤ x) && decide (x < r.2.2)) := by unfold cnt; rw [hv, Bool.true_and]
      rw [h, hc]
      by_cases hp : r.1 = p
      · by_cases h1 : r.2.1 ≤ x
        · by_cases h2 : r.2.2 ≤ x
          · have h3 : ¬ x < r.2.2 := by omega
            simp [List.countP_cons, isB, hp, h1, h2, h3]; omega
          · have h3 : x < r.2.2 := by omega
            simp [List.countP_cons, isB, hp, h1, h2, h3]; omega
        · have h2 : ¬ r.2.2 ≤ x := by omega
          simp [List.countP_cons, isB, hp, h1, h2]; omega
      · simp [List.countP_cons, isB, hp]; omega
    · rw [if_neg h, if_neg (fun hh => h hh.1)]
      simpa using ih
/-- The bounds of two lists, in an ascending order. -/
structure Swp (a b : List Rc) (D : List Bo) : Prop where
  srt : D.Pairwise fun d e => d.1 ≤ e.1
  prm : D.Perm (bndR 0 a ++ bndR 1 b)
def pick (j : Int) (a b : List Rc) : List Rc := if j = 0 then a else b
theorem Swp.ends {a b : List Rc} {D : List Bo} (h : Swp a b D) (j : Int) (p : Int × Int) (x : Int) : D.countP (fun d => isB j p false d && decide (d.1 ≤ x)) ≤ D.countP (fun d => isB j p true d && decide (d.1 < x)) := by
  rw [h.prm.countP_eq, h.prm.countP_eq, List.countP_append, List.countP_append]
  have h1 := ends_le 0 j p x a
  have h2 := ends_le 1 j p x b
  omega
theorem Swp.at {a b : List Rc} {D : List Bo} (h : Swp a b D) {j : Int} (hj : j = 0 ∨ j = 1) (p : Int × Int) (x : Int) :
    D.countP (fun d => isB j p true d && decide (d.1 ≤ x)) = D.countP (fun d => isB j p false d && decide (d.1 ≤ x)) + (atS (pick j a b) x).count p := by
  rw [h.prm.countP_eq, h.prm.countP_eq, List.countP_append, List.countP_append]
  rcases hj with rfl | rfl
  · rw [other_zero (i := 1) (by decide) p true, other_zero (i := 1) (by decide) p false, at_count]; rfl
  · rw [other_zero (i := 0) (by decide) p true, other_zero (i := 0) (by decide) p false, at_count]
    show 0 + (_ + (atS b x).count p) = 0 + _ + (atS b x).count p
    omega
theorem cut_le {D : List Bo} (hs : D.Pairwise fun d e => d.1 ≤ e.1) {k : Nat} (hk : k < D.length) : (∀ d ∈ D.take k, d.1 ≤ D[k].1) ∧ ∀ d ∈ D.drop k, D[k].1 ≤ d.1 := by
  have h : (D.take k ++ D[k] :: D.drop (k + 1)).Pairwise fun d e => d.1 ≤ e.1 := by rw [← List.drop_eq_getElem_cons hk, List.take_append_drop]; exact hs
  have h1 := List.pairwise_append.1 h
  refine ⟨fun d hd => h1.2.2 d hd _ (List.mem_cons_self ..), fun d hd => ?_⟩
  rw [List.drop_eq_getElem_cons hk] at hd
  rcases List.mem_cons.1 hd with rfl | hd
  · exact Int.le_refl _
  · exact (List.pairwise_cons.1 h1.2.1).1 d hd
theorem opn_has {a b : List Rc} {D : List Bo} (h : Swp a b D) (j : Int) {k : Nat} (hk : k < D.length) (p : Int × Int) (hd : isB j p false D[k] = true)
    (hc : (opn j (D.take k)).count p + (D.take k).countP (isB j p false) = (D.take k).countP (isB j p true)) : p ∈ opn j (D.take k) := by
  have he := h.ends j p D[k].1
  obtain ⟨c1, c2⟩ := cut_le h.srt hk
  have hD : D.take k ++ D.drop k = D := List.take_append_drop k D
  generalize hT : D.take k = T at *
  generalize hx : D[k] = x at *
  have hR : D.drop k = x :: D.drop (k + 1) := by rw [← hx]; exact List.drop_eq_getElem_cons hk
  have e1 : D.countP (fun d => isB j p false d && decide (d.1 ≤ x.1)) = T.countP (fun d => isB j p false d && decide (d.1 ≤ x.1)) + (D.drop k).countP (fun d => isB j p false d && decide (d.1 ≤ x.1)) := by rw [← List.countP_append, hD]
  have e2 : D.countP (fun d => isB j p true d && decide (d.1 < x.1)) = T.countP (fun d => isB j p true d && decide (d.1 < x.1)) + (D.drop k).countP (fun d => isB j p true d && decide (d.1 < x.1)) := by rw [← List.countP_append, hD]
  have e3 : T.countP (fun d => isB j p false d && decide (d.1 ≤ x.1)) = T.countP (isB j p false) := List.countP_congr fun d hd => by simp [c1 d hd]
  have e4 : 1 ≤ (D.drop k).countP (fun d => isB j p false d && decide (d.1 ≤ x.1)) := by
    rw [hR, List.countP_cons, hd]; simp
  have e5 : (D.drop k).countP (fun d => isB j p true d && decide (d.1 < x.1)) = 0 := by
    rw [List.countP_eq_zero]; intro d hd
    have := c2 d hd
    simp; intro _; omega
  have e6 : T.countP (fun d => isB j p true d && decide (d.1 < x.1)) ≤ T.countP (isB j p true) := List.countP_mono_left fun d _ hd => by
    rw [Bool.and_eq_true] at hd; exact hd.1
  have e7 : 0 < (opn j T).count p := by omega
  exact List.count_pos_iff.1 e7
theorem opn_inv {a b : List Rc} {D : List Bo} (h : Swp a b D) (j : Int) : ∀ k, k ≤ D.length → SrtP (opn j (D.take k)) ∧ ∀ p, (opn j (D.take k)).count p + (D.take k).countP (isB j p false) = (D.take k).countP (isB j p true)
  | 0, _ => ⟨List.Pairwise.nil, fun p => by simp [opn]⟩
  | k + 1, hk => by
    have hk' : k < D.length := hk
    obtain ⟨h1, h2⟩ := opn_inv h j k (by omega)
    have hh := fun p hp => opn_has h j hk' p hp (h2 p)
    rw [List.take_succ_eq_append_getElem hk', opn_snoc]
    generalize D[k] = d at *
    obtain ⟨x, i, bg, q⟩ := d
    have e1 : ∀ p b, (D.take k ++ [(x, i, bg, q)]).countP (isB j p b) = (D.take k).countP (isB j p b) + if i = j ∧ bg = b ∧ q = p then 1 else 0 := fun p b => by
      rw [List.countP_append]
      congr 1
      rw [List.countP_cons, List.countP_nil]
      by_cases hi : i = j
      · by_cases hb : bg = b
        · by_cases hp : q = p
          · simp [isB, hi, hb, hp]
          · simp [isB, hp]
        · simp [isB, hb]
      · simp [isB, hi]
    simp only [e1]
    unfold ostep
    by_cases hi : i = j
    · rw [if_pos hi]
      cases bg
      · rw [if_neg (by simp)]
        have hm := hh q (by simp [isB, hi])
        refine ⟨rem_sorted h1, fun p => ?_⟩
        have g1 := rem_count h1 hm p
        have g2 := h2 p
        dsimp only
        generalize (opn j (D.take k)).count p = A at *
        generalize (remP q (opn j (D.take k))).count p = B at *
        by_cases hp : q = p
        · rw [if_pos hp] at g1
          rw [if_pos ⟨hi, rfl, hp⟩, if_neg (by simp)]; omega
        · rw [if_neg hp] at g1
          rw [if_neg (fun hh => hp hh.2.2), if_neg (by simp)]; omega
      · rw [if_pos rfl]
        refine ⟨ins_sorted q _ h1, fun p => ?_⟩
        have g1 := ins_count q (opn j (D.take k)) p
        have g2 := h2 p
        dsimp only
        generalize (opn j (D.take k)).count p = A at *
        generalize (insP q (opn j (D.take k))).count p = B at *
        by_cases hp : q = p
        · rw [if_pos hp] at g1
          rw [if_neg (by simp), if_pos ⟨hi, rfl, hp⟩]; omega
        · rw [if_neg hp] at g1
          rw [if_neg (by simp), if_neg (fun hh => hp hh.2.2)]; omega
    · rw [if_neg hi]
      refine ⟨h1, fun p => ?_⟩
      have g2 := h2 p
      rw [if_neg (fun hh => hi hh.1), if_neg (fun hh => hi hh.1)]; omega
end Go.Proofs.YtnbeopkpkagjmaaGreat
