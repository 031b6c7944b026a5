/-
  Mathematics of step functions: the value at an instant, validity, normal forms over ascending points; a valid list is fixed by its values. Conditions: none.
-/
import Derived.Test.YtbdioabeopnfeaaBase
namespace Go.Proofs.Ytbdioabeopnfeaa

/-- The value at t of the steps l, behind the value a. -/
def valF (a : Int) (l : List (Int × Int)) (t : Int) : Int := l.foldl (fun n s => if s.1 ≤ t then s.2 else n) a
theorem valF_nil (a t : Int) : valF a [] t = a := rfl
theorem valF_cons (a : Int) (p : Int × Int) (l : List (Int × Int)) (t : Int) : valF a (p :: l) t = valF (if p.1 ≤ t then p.2 else a) l t := rfl
theorem valF_snoc (a : Int) (l : List (Int × Int)) (p : Int × Int) (t : Int) : valF a (l ++ [p]) t = if p.1 ≤ t then p.2 else valF a l t := by
  unfold valF; rw [List.foldl_append]; rfl
/-- Steps behind the step (x, n). -/
def stT (x n : Int) : List (Int × Int) → Bool
  | [] => true
  | (y, m) :: l => decide (x < y) && decide (y < 1099511627776) && decide (m ≠ n) && stT y m l
def stV : List (Int × Int) → Bool
  | [] => false
  | (x, n) :: l => decide (x = 0) && stT x n l
theorem stT_cons {x n y m : Int} {l : List (Int × Int)} : stT x n ((y, m) :: l) = true ↔ x < y ∧ y < 1099511627776 ∧ m ≠ n ∧ stT y m l = true := by
  simp [stT, and_assoc]
theorem valF_low : ∀ (l : List (Int × Int)) (x n a t : Int), stT x n l = true → t ≤ x → valF a l t = a
  | [], _, _, _, _, _, _ => rfl
  | (y, m) :: l, x, n, a, t, h, ht => by
    obtain ⟨h1, _, _, h4⟩ := stT_cons.1 h
    rw [valF_cons, if_neg (by show ¬ y ≤ t; omega)]
    exact valF_low l y m a t h4 (by omega)
theorem valF_at (x n a : Int) (l : List (Int × Int)) (h : stT x n l = true) : valF a ((x, n) :: l) x = n := by
  rw [valF_cons, if_pos (Int.le_refl x)]
  exact valF_low l x n n x h (Int.le_refl x)
/-- Two lists of steps with the same values are equal. -/
theorem stT_ext : ∀ (l m : List (Int × Int)) (x n : Int), stT x n l = true → stT x n m = true → (∀ t, x ≤ t → t < 1099511627776 → valF n l t = valF n m t) → l = m
  | [], [], _, _, _, _, _ => rfl
  | [], (z, j) :: m, x, n, _, h2, hv => by
    obtain ⟨a1, a2, a3, a4⟩ := stT_cons.1 h2
    have := hv z (by omega) a2
    rw [valF_nil, valF_at z j n m a4] at this
    exact absurd this.symm a3
  | (y, k) :: l, [], x, n, h1, _, hv => by
    obtain ⟨a1, a2, a3, a4⟩ := stT_cons.1 h1
    have := hv y (by omega) a2
    rw [valF_nil, valF_at y k n l a4] at this
    exact absurd this a3
  | (y, k) :: l, (z, j) :: m, x, n, h1, h2, hv => by
    obtain ⟨a1, a2, a3, a4⟩ := stT_cons.1 h1
    obtain ⟨b1, b2, b3, b4⟩ := stT_cons.1 h2
    rcases Int.lt_trichotomy y z with h | h | h
    · have h0 := hv y (by omega) a2
      rw [valF_at y k n l a4, valF_cons, if_neg (by show ¬ z ≤ y; omega), valF_low m z j n y b4 (by omega)] at h0
      exact absurd h0 a3
    · subst h
      have h0 := hv y (by omega) a2
      rw [valF_at y k n l a4, valF_at y j n m b4] at h0
      subst h0
      rw [stT_ext l m y k a4 b4 (fun t h3 h4 => by
        have := hv t (by omega) h4
        rw [valF_cons, valF_cons, if_pos h3] at this
        exact this)]
    · have h0 := hv z (by omega) b2
      rw [valF_at z j n m b4, valF_cons, if_neg (by show ¬ y ≤ z; omega), valF_low l y k n z a4 (by omega)] at h0
      exact absurd h0.symm b3
theorem stV_ext {l m : List (Int × Int)} (h1 : stV l = true) (h2 : stV m = true) (hv : ∀ t, 0 ≤ t → t < 1099511627776 → valF 0 l t = valF 0 m t) : l = m := by
  match l, m, h1, h2 with
  | (x, n) :: l, (y, k) :: m, h1, h2 =>
    simp only [stV, Bool.and_eq_true, decide_eq_true_eq] at h1 h2
    obtain ⟨rfl, h1⟩ := h1
    obtain ⟨rfl, h2⟩ := h2
    have h0 := hv 0 (Int.le_refl 0) (by decide)
    rw [valF_at 0 n 0 l h1, valF_at 0 k 0 m h2] at h0
    subst h0
    rw [stT_ext l m 0 n h1 h2 (fun t h3 h4 => by
      have := hv t h3 h4
      rw [valF_cons, valF_cons, if_pos h3] at this
      exact this)]

/-- Ascending points behind x, before forever. -/
def ascP (x : Int) : List Int → Bool
  | [] => true
  | y :: P => decide (x < y) && decide (y < 1099511627776) && ascP y P
theorem ascP_cons {x y : Int} {P : List Int} : ascP x (y :: P) = true ↔ x < y ∧ y < 1099511627776 ∧ ascP y P = true := by simp [ascP, and_assoc]
/-- The steps of f over the points, behind the value n. -/
def nrm (f : Int → Int) (n : Int) : List Int → List (Int × Int)
  | [] => []
  | t :: P => if f t = n then nrm f n P else (t, f t) :: nrm f (f t) P
def nrmV (f : Int → Int) : List Int → List (Int × Int)
  | [] => []
  | t :: P => (t, f t) :: nrm f (f t) P
def lstV (n : Int) (L : List (Int × Int)) : Int := match L.getLast? with
  | some q => q.2
  | none => n
theorem lstV_cons (n : Int) (p : Int × Int) (L : List (Int × Int)) : lstV n (p :: L) = lstV p.2 L := by
  unfold lstV
  cases L with
  | nil => rfl
  | cons q L => rw [List.getLast?_cons_cons]; cases h : (q :: L).getLast? with
    | none => simp at h
    | some r => rfl
theorem lstV_snoc (n : Int) (L : List (Int × Int)) (p : Int × Int) : lstV n (L ++ [p]) = p.2 := by unfold lstV; simp
theorem nrm_snoc (f : Int → Int) : ∀ (P : List Int) (n t : Int), nrm f n (P ++ [t]) = nrm f n P ++ if f t = lstV n (nrm f n P) then [] else [(t, f t)]
  | [], n, t => by
    show (if f t = n then [] else [(t, f t)]) = [] ++ if f t = n then [] else [(t, f t)]
    rw [List.nil_append]
  | p :: P, n, t => by
    rw [List.cons_append, nrm, nrm]
    by_cases h : f p = n
    · rw [if_pos h, if_pos h]; exact nrm_snoc f P n t
    · rw [if_neg h, if_neg h, nrm_snoc f P (f p) t, lstV_cons, List.cons_append]
theorem nrmV_snoc (f : Int → Int) {P : List Int} (hP : P ≠ []) (t : Int) : nrmV f (P ++ [t]) = nrmV f P ++ if f t = lstV 0 (nrmV f P) then [] else [(t, f t)] := by
  match P, hP with
  | p :: P, _ => rw [List.cons_append, nrmV, nrmV, nrm_snoc, lstV_cons, List.cons_append]
theorem nrm_len (f : Int → Int) : ∀ (P : List Int) (n : Int), (nrm f n P).length ≤ P.length
  | [], _ => Nat.le_refl _
  | p :: P, n => by
    rw [nrm]
    have h1 := nrm_len f P n
    have h2 := nrm_len f P (f p)
    split <;> simp only [List.length_cons] <;> omega
theorem nrmV_len (f : Int → Int) (P : List Int) : (nrmV f P).length ≤ P.length := by
  cases P with
  | nil => exact Nat.le_refl _
  | cons p P => have := nrm_len f P (f p); simp only [nrmV, List.length_cons]; omega
theorem nrm_mono {f : Int → Int} : ∀ (P : List Int) (x y n : Int), y ≤ x → stT x n (nrm f n P) = true → stT y n (nrm f n P) = true := by
  intro P x y n hxy h
  cases hL : nrm f n P with
  | nil => rfl
  | cons q L =>
    obtain ⟨z, k⟩ := q
    rw [hL] at h
    obtain ⟨h1, h2, h3, h4⟩ := stT_cons.1 h
    exact stT_cons.2 ⟨by omega, h2, h3, h4⟩
theorem nrm_ok (f : Int → Int) : ∀ (P : List Int) (x n : Int), ascP x P = true → stT x n (nrm f n P) = true
  | [], _, _, _ => rfl
  | p :: P, x, n, h => by
    obtain ⟨h1, h2, h3⟩ := ascP_cons.1 h
    rw [nrm]
    by_cases hf : f p = n
    · rw [if_pos hf]; exact nrm_mono P p x n (by omega) (nrm_ok f P p n h3)
    · rw [if_neg hf]; exact stT_cons.2 ⟨h1, h2, hf, nrm_ok f P p (f p) h3⟩
theorem nrmV_ok (f : Int → Int) (P : List Int) (h : ascP 0 P = true) : stV (nrmV f (0 :: P)) = true := by
  simp only [nrmV, stV, decide_true, Bool.true_and]
  exact nrm_ok f P 0 (f 0) h
/-- The value of f at the last point up to t (n before the first one). -/
def fAt (f : Int → Int) (n : Int) (P : List Int) (t : Int) : Int := P.foldl (fun a p => if p ≤ t then f p else a) n
theorem fAt_cons (f : Int → Int) (n p : Int) (P : List Int) (t : Int) : fAt f n (p :: P) t = fAt f (if p ≤ t then f p else n) P t := rfl
theorem fAt_low (f : Int → Int) : ∀ (P : List Int) (x n t : Int), ascP x P = true → t ≤ x → fAt f n P t = n
  | [], _, _, _, _, _ => rfl
  | p :: P, x, n, t, h, ht => by
    obtain ⟨h1, _, h3⟩ := ascP_cons.1 h
    rw [fAt_cons, if_neg (by omega)]
    exact fAt_low f P p n t h3 (by omega)
theorem nrm_val (f : Int → Int) : ∀ (P : List Int) (x n t : Int), ascP x P = true → valF n (nrm f n P) t = fAt f n P t
  | [], _, _, _, _ => rfl
  | p :: P, x, n, t, h => by
    obtain ⟨h1, h2, h3⟩ := ascP_cons.1 h
    rw [nrm, fAt_cons]
    by_cases hf : f p = n
    · rw [if_pos hf, hf, nrm_val f P p n t h3]
      split <;> rfl
    · rw [if_neg hf, valF_cons]
      dsimp only
      by_cases ht : p ≤ t
      · rw [if_pos ht]; exact nrm_val f P p (f p) t h3
      · rw [if_neg ht, fAt_low f P p n t h3 (by omega)]
        exact valF_low _ p (f p) n t (nrm_ok f P p (f p) h3) (by omega)
theorem nrmV_val (f : Int → Int) (P : List Int) (t : Int) (h : ascP 0 P = true) (ht : 0 ≤ t) : valF 0 (nrmV f (0 :: P)) t = fAt f (f 0) P t := by
  rw [nrmV, valF_cons]
  dsimp only
  rw [if_pos ht]
  exact nrm_val f P 0 (f 0) t h
/-- The value does not change between the points of l. -/
theorem valF_const : ∀ (l : List (Int × Int)) (a t u : Int), t ≤ u → (∀ p ∈ l, ¬ (t < p.1 ∧ p.1 ≤ u)) → valF a l t = valF a l u
  | [], _, _, _, _, _ => rfl
  | p :: l, a, t, u, htu, h => by
    rw [valF_cons, valF_cons]
    have h0 := h p (by simp)
    rw [show (if p.1 ≤ t then p.2 else a) = if p.1 ≤ u then p.2 else a by
      by_cases h1 : p.1 ≤ t
      · rw [if_pos h1, if_pos (by omega)]
      · rw [if_neg h1, if_neg (by omega)]]
    exact valF_const l _ t u htu (fun q hq => h q (List.mem_cons_of_mem _ hq))
/-- A function that does not change between the points is found at the last point. -/
theorem fAt_eq (f : Int → Int) : ∀ (P : List Int) (x t : Int), ascP x P = true → x ≤ t → (∀ s u, x ≤ s → s ≤ u → u ≤ t → (∀ p ∈ P, ¬ (s < p ∧ p ≤ u)) → f s = f u) → fAt f (f x) P t = f t
  | [], x, t, _, hx, h => h x t (Int.le_refl x) hx (Int.le_refl t) (fun _ hp => by cases hp)
  | p :: P, x, t, ha, hx, h => by
    obtain ⟨h1, h2, h3⟩ := ascP_cons.1 ha
    rw [fAt_cons]
    by_cases hp : p ≤ t
    · rw [if_pos hp]
      refine fAt_eq f P p t h3 hp (fun s u hs hsu hu hq => h s u (by omega) hsu hu (fun q hm => ?_))
      rcases List.mem_cons.1 hm with rfl | hm
      · omega
      · exact hq q hm
    · rw [if_neg hp, fAt_low f P p (f x) t h3 (by omega)]
      refine h x t (Int.le_refl x) hx (Int.le_refl t) (fun q hm => ?_)
      have hall : ∀ (P : List Int) (y : Int), ascP y P = true → ∀ q ∈ P, y < q := by
        intro P
        induction P with
        | nil => intro y _ q hq; cases hq
        | cons z P ih =>
          intro y hy q hq
          obtain ⟨a, _, b⟩ := ascP_cons.1 hy
          rcases List.mem_cons.1 hq with rfl | hq
          · exact a
          · have := ih z b q hq; omega
      rcases List.mem_cons.1 hm with rfl | hm
      · omega
      · have := hall P p h3 q hm; omega
end Go.Proofs.Ytbdioabeopnfeaa
