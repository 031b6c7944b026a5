/-
  Mathematics of Shown: the periods of the stamps in which a reading may have been shown, glued where they touch. Conditions: none.
-/
import Derived.Test.YtonhlejeedhpiaaCkM
namespace Go.Proofs.Ytonhlejeedhpiaa
open Go.RowKit

def mayB (a : Int) (b : Option Int) (wall : Int) : Bool := match b with
  | none => decide (a ≤ wall)
  | some b => if b ≥ a then decide (a ≤ wall) && decide (wall ≤ b) else decide (a ≤ wall) || decide (wall ≤ b)
/-- Where the period of a stamp ends that is followed by q. -/
def endO (q : Option (Int × Int)) : Int := match q with
  | none => 1099511627776
  | some q => q.1
def gst (L : List (Int × Int)) (p : Int × Int) : List (Int × Int) := match L.getLast? with
  | some q => if q.2 = p.1 then L.dropLast ++ [(q.1, p.2)] else L ++ [p]
  | none => [p]
theorem gst_nil (p : Int × Int) : gst [] p = [] ++ [p] := rfl
theorem gst_glue {m : List (Int × Int)} {x y t u : Int} (h : y = t) : gst (m ++ [(x, y)]) (t, u) = m ++ [(x, u)] := by
  unfold gst
  rw [show (m ++ [(x, y)]).getLast? = some (x, y) by simp]
  simp only [List.dropLast_concat]
  rw [if_pos h]
theorem gst_far {m : List (Int × Int)} {x y t u : Int} (h : ¬ y = t) : gst (m ++ [(x, y)]) (t, u) = m ++ [(x, y)] ++ [(t, u)] := by
  unfold gst
  rw [show (m ++ [(x, y)]).getLast? = some (x, y) by simp]
  simp only [List.dropLast_concat]
  rw [if_neg h]
theorem gst_len (L : List (Int × Int)) (p : Int × Int) : (gst L p).length ≤ L.length + 1 := by
  rcases List.eq_nil_or_concat L with rfl | ⟨m, q, rfl⟩
  · simp [gst]
  · rw [List.concat_eq_append]
    obtain ⟨x, y⟩ := q
    obtain ⟨t, u⟩ := p
    by_cases h : y = t
    · rw [gst_glue h]; simp
    · rw [gst_far h]; simp
def shS (A : List (Int × Int)) (wall : Int) : Nat → List (Int × Int)
  | 0 => []
  | k + 1 => match A[k]? with
    | none => shS A wall k
    | some p => if mayB p.2 (A[k + 1]?.map (·.2)) wall then gst (shS A wall k) (p.1, endO A[k + 1]?) else shS A wall k
theorem shS_yes {A : List (Int × Int)} {wall : Int} {k : Nat} {t r : Int} (h : A[k]? = some (t, r)) (hm : mayB r (A[k + 1]?.map (·.2)) wall = true) : shS A wall (k + 1) = gst (shS A wall k) (t, endO A[k + 1]?) := by
  rw [shS, h]; dsimp only; rw [if_pos hm]
theorem shS_no {A : List (Int × Int)} {wall : Int} {k : Nat} {t r : Int} (h : A[k]? = some (t, r)) (hm : mayB r (A[k + 1]?.map (·.2)) wall = false) : shS A wall (k + 1) = shS A wall k := by
  rw [shS, h]; dsimp only; rw [if_neg (by rw [hm]; decide)]
theorem shS_len (A : List (Int × Int)) (wall : Int) : ∀ k, (shS A wall k).length ≤ k
  | 0 => Nat.le_refl _
  | k + 1 => by
    have ih := shS_len A wall k
    rw [shS]
    cases A[k]? with
    | none => exact Nat.le_succ_of_le ih
    | some p =>
      dsimp only
      split
      · have := gst_len (shS A wall k) (p.1, endO A[k + 1]?); omega
      · omega
/-- The times ascend. -/
def Asc (A : List (Int × Int)) : Prop := ∀ (k : Nat) (p : Int × Int), A[k]? = some p → 0 ≤ p.1 ∧ p.1 < endO A[k + 1]? ∧ endO A[k + 1]? ≤ 1099511627776
theorem asc_of : ∀ (l : List (Int × Int)) (a r : Int), 0 ≤ a → a < 1099511627776 → chk a l = 0 → Asc ((a, r) :: l)
  | [], a, r, h0, h1, _ => by
    intro k p hk
    cases k with
    | zero => simp at hk; subst hk; exact ⟨h0, by simpa [endO] using h1, by simp [endO]⟩
    | succ k => simp at hk
  | (t, r') :: l, a, r, h0, h1, hc => by
    unfold chk at hc
    split at hc
    · cases hc
    · rename_i hi
      split at hc
      · cases hc
      · split at hc
        · cases hc
        · have hi2 : inst t = true := by
            cases h : inst t
            · rw [h, Bool.and_false] at hi; exact absurd rfl hi
            · rfl
          have ht := inst_iff.1 hi2
          have ih := asc_of l t r' ht.1 ht.2 hc
          intro k p hk
          cases k with
          | zero => simp at hk; subst hk; exact ⟨h0, by show a < endO (some (t, r')); simp only [endO]; omega, by show endO (some (t, r')) ≤ _; simp only [endO]; omega⟩
          | succ k =>
            rw [List.getElem?_cons_succ] at hk
            have := ih k p hk
            rw [List.getElem?_cons_succ]
            exact this
theorem chk_len : ∀ (l : List (Int × Int)) (a : Int), a < 1099511627776 → chk a l = 0 → a + l.length < 1099511627776
  | [], a, h, _ => by simpa using h
  | (t, r') :: l, a, h1, hc => by
    unfold chk at hc
    split at hc
    · cases hc
    · rename_i hi
      split at hc
      · cases hc
      · split at hc
        · cases hc
        · have hi2 : inst t = true := by
            cases h : inst t
            · rw [h, Bool.and_false] at hi; exact absurd rfl hi
            · rfl
          have ht := inst_iff.1 hi2
          have ih := chk_len l t ht.2 hc
          rw [List.length_cons]
          omega
/-- The last period so far ends where the next stamp begins, or earlier. -/
theorem shS_last {A : List (Int × Int)} (hA : Asc A) (wall : Int) : ∀ (k : Nat) (q : Int × Int), k ≤ A.length → (shS A wall k).getLast? = some q → 0 ≤ q.1 ∧ q.1 < q.2 ∧ q.2 ≤ endO A[k]?
  | 0, q, _, h => by simp [shS] at h
  | k + 1, q, hk, h => by
    have hx := List.getElem?_eq_getElem (show k < A.length by omega)
    generalize A[k] = p at hx
    obtain ⟨t, r⟩ := p
    have ha := hA k _ hx
    dsimp only at ha
    cases hm : mayB r (A[k + 1]?.map (·.2)) wall
    · rw [shS_no hx hm] at h
      have ih := shS_last hA wall k q (by omega) h
      rw [hx] at ih
      simp only [endO] at ih
      exact ⟨ih.1, ih.2.1, by omega⟩
    · rw [shS_yes hx hm] at h
      rcases List.eq_nil_or_concat (shS A wall k) with h0 | ⟨m, q0, h0⟩
      · rw [h0, gst_nil] at h
        simp at h
        subst h
        exact ⟨ha.1, ha.2.1, Int.le_refl _⟩
      · rw [List.concat_eq_append] at h0
        obtain ⟨x, y⟩ := q0
        have ih := shS_last hA wall k (x, y) (by omega) (by rw [h0]; simp)
        rw [hx] at ih
        simp only [endO] at ih
        rw [h0] at h
        by_cases hyt : y = t
        · rw [gst_glue hyt] at h
          simp at h
          subst h
          exact ⟨ih.1, by dsimp only; omega, Int.le_refl _⟩
        · rw [gst_far hyt] at h
          simp at h
          subst h
          exact ⟨ha.1, ha.2.1, Int.le_refl _⟩
/-- A stamp's time lies in the periods, where the reading may have been shown. -/
def Cov (L : List (Int × Int)) (t : Int) : Prop := ∃ p ∈ L, p.1 ≤ t ∧ t < p.2
theorem cov_gst {L : List (Int × Int)} {t u x : Int} (htu : t < u) (hC : Cov L x) : Cov (gst L (t, u)) x := by
  obtain ⟨p, hp, h1, h2⟩ := hC
  rcases List.eq_nil_or_concat L with rfl | ⟨m, q, rfl⟩
  · cases hp
  · rw [List.concat_eq_append] at *
    obtain ⟨a, b⟩ := q
    by_cases hb : b = t
    · rw [gst_glue hb]
      rcases List.mem_append.1 hp with hp | hp
      · exact ⟨p, List.mem_append.2 (.inl hp), h1, h2⟩
      · simp at hp
        subst hp
        exact ⟨(a, u), by simp, h1, by dsimp only at h2 ⊢; omega⟩
    · rw [gst_far hb]
      exact ⟨p, List.mem_append.2 (.inl hp), h1, h2⟩
theorem cov_new {L : List (Int × Int)} {t u : Int} (htu : t < u) (hL : ∀ q, L.getLast? = some q → q.1 < q.2) : Cov (gst L (t, u)) t := by
  rcases List.eq_nil_or_concat L with rfl | ⟨m, q, rfl⟩
  · exact ⟨(t, u), by simp [gst], Int.le_refl _, htu⟩
  · rw [List.concat_eq_append] at *
    obtain ⟨a, b⟩ := q
    have := hL (a, b) (by simp)
    dsimp only at this
    by_cases hb : b = t
    · rw [gst_glue hb]; exact ⟨(a, u), by simp, by dsimp only; omega, htu⟩
    · rw [gst_far hb]; exact ⟨(t, u), by simp, Int.le_refl _, htu⟩
theorem cov_shS {A : List (Int × Int)} (hA : Asc A) (wall : Int) {i : Nat} {t r : Int} (hx : A[i]? = some (t, r)) (hm : mayB r (A[i + 1]?.map (·.2)) wall = true) : ∀ k, i < k → k ≤ A.length → Cov (shS A wall k) t
  | 0, h, _ => by omega
  | k + 1, h, hk => by
    have hxk := List.getElem?_eq_getElem (show k < A.length by omega)
    generalize A[k] = p at hxk
    obtain ⟨t', r'⟩ := p
    have ha := hA k _ hxk
    dsimp only at ha
    by_cases hik : i = k
    · subst hik
      rw [hx] at hxk
      injection hxk with e
      injection e with e1 e2
      subst e1 e2
      rw [shS_yes hx hm]
      exact cov_new ha.2.1 fun q hq => (shS_last hA wall i q (by omega) hq).2.1
    · have ih := cov_shS hA wall hx hm k (by omega) (by omega)
      cases hm' : mayB r' (A[k + 1]?.map (·.2)) wall
      · rw [shS_no hxk hm']; exact ih
      · rw [shS_yes hxk hm']; exact cov_gst ha.2.1 ih
/-- At the time of its commit a reading may have been shown. -/
theorem may_self (r : Int) (b : Option Int) : mayB r b r = true := by
  unfold mayB
  cases b with
  | none => simp
  | some b => dsimp only; split <;> simp; omega
def shL (l : List (Int × Int)) (wall : Int) : List (Int × Int) := if chk 0 l = 0 ∧ inst wall = true then shS ((0, 0) :: l) wall (l.length + 1) else []
theorem shL_bad {l : List (Int × Int)} {wall : Int} (h : ¬ chk 0 l = 0) : shL l wall = [] := by unfold shL; rw [if_neg (fun x => h x.1)]
theorem shL_wall {l : List (Int × Int)} {wall : Int} (h : inst wall = false) : shL l wall = [] := by unfold shL; rw [if_neg (by rw [h]; simp)]
theorem shL_ok {l : List (Int × Int)} {wall : Int} (h : chk 0 l = 0) (hw : inst wall = true) : shL l wall = shS ((0, 0) :: l) wall (l.length + 1) := by unfold shL; rw [if_pos ⟨h, hw⟩]
end Go.Proofs.Ytonhlejeedhpiaa
