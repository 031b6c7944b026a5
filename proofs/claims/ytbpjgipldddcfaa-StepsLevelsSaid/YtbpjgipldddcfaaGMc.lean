import Derived.Test.YtbpjgipldddcfaaGMb
import Derived.WalkKit
import Derived.WalkSpells
import Derived.WalkLawsBesides
import Derived.Deep.QuietTactic
import Derived.BigQuiet
import Derived.Handy
import Derived.Lib.Hide
/-
  Mathematics of levels: the sets of instants with values of at least n, and the statements' facts on them. Conditions: none.
-/
namespace Go.Proofs.Ytbpjgipldddcfaa
set_option maxRecDepth 100000
set_option linter.unusedVariables false
set_option linter.unusedSimpArgs false
open Go.RowKit

def endAt (l : List (Int × Int)) : Nat → Int
  | 0 => 0
  | k + 1 => toAt l k
theorem to_gt {l : List (Int × Int)} (hv : stV l = true) {k : Nat} {p : Int × Int} (hx : l[k]? = some p) : p.1 < toAt l k ∧ toAt l k ≤ 1099511627776 := by
  unfold toAt
  cases hy : l[k + 1]? with
  | none => exact ⟨(stV_range hv _ (List.mem_of_getElem? hx)).2, Int.le_refl _⟩
  | some q => exact ⟨stV_next hv hx hy, by have := stV_range hv _ (List.mem_of_getElem? hy); show q.1 ≤ _; omega⟩
theorem end_at {l : List (Int × Int)} (hv : stV l = true) {k : Nat} {p : Int × Int} (hx : l[k]? = some p) : endAt l k = p.1 := by
  match k, hx with
  | 0, hx =>
    cases l with
    | nil => cases hv
    | cons q l =>
      obtain ⟨x, n⟩ := q
      have h2 : (decide (x = 0) && stT x n l) = true := hv
      rw [Bool.and_eq_true] at h2
      have h3 := of_decide_eq_true h2.1
      simp at hx
      subst hx h3
      rfl
  | k + 1, hx => show toAt l k = p.1; unfold toAt; rw [hx]
theorem hiT_asc {l : List (Int × Int)} (hv : stV l = true) (n : Int) : ∀ k, k ≤ l.length → ascB (-1) (hiT n l k) = true ∧ lastTo (-1) (hiT n l k) ≤ endAt l k
  | 0, _ => ⟨rfl, by show (-1 : Int) ≤ 0; decide⟩
  | k + 1, hk => by
    obtain ⟨h1, h2⟩ := hiT_asc hv n k (by omega)
    have hx := List.getElem?_eq_getElem (show k < l.length by omega)
    generalize l[k] = s at hx
    obtain ⟨x, v⟩ := s
    have he := end_at hv hx
    obtain ⟨ht, hF⟩ := to_gt hv hx
    have hr := stV_range hv _ (List.mem_of_getElem? hx)
    dsimp only at he ht hr
    rw [hiT_step hx]
    show _ ∧ _ ≤ toAt l k
    split
    · rw [ascB_snoc, lastTo_snoc, h1]
      refine ⟨?_, Int.le_refl _⟩
      rw [show decide (lastTo (-1) (hiT n l k) ≤ x) = true from decide_eq_true (by omega), vld_iff.2 ⟨hr.1, ht, hF⟩]
      rfl
    · rw [List.append_nil]
      exact ⟨h1, by omega⟩
theorem hiT_mem {l : List (Int × Int)} (hv : stV l = true) (n t : Int) : ∀ k, k ≤ l.length → memL (hiT n l k) t = (decide (0 ≤ t) && decide (t < endAt l k) && decide (n ≤ valF 0 (l.take k) t))
  | 0, _ => by
    show false = _
    by_cases h : 0 ≤ t
    · rw [show decide (t < endAt l 0) = false from decide_eq_false (by show ¬ t < 0; omega)]
      simp
    · simp [h]
  | k + 1, hk => by
    have ih := hiT_mem hv n t k (by omega)
    have hx := List.getElem?_eq_getElem (show k < l.length by omega)
    generalize l[k] = s at hx
    obtain ⟨x, v⟩ := s
    have he := end_at hv hx
    obtain ⟨ht, hF⟩ := to_gt hv hx
    have hr := stV_range hv _ (List.mem_of_getElem? hx)
    dsimp only at he ht hr
    have hval := valF_take 0 t hx
    dsimp only at hval
    rw [hiT_step hx, memL_append, ih, he, hval, Bool.eq_iff_iff]
    show _ ↔ (decide (0 ≤ t) && decide (t < toAt l k) && _) = true
    by_cases hxt : x ≤ t
    · rw [if_pos hxt]
      split
      · rename_i hn
        rw [memL_cons, memL_nil, Bool.or_false, Bool.or_eq_true, cnt_iff]
        simp
        omega
      · rename_i hn
        rw [memL_nil, Bool.or_false]
        simp
        omega
    · rw [if_neg hxt]
      split
      · rename_i hn
        rw [memL_cons, memL_nil, Bool.or_false, Bool.or_eq_true, cnt_iff]
        simp
        omega
      · rw [memL_nil, Bool.or_false]
        simp
        omega
theorem atL_sp {l : List (Int × Int)} (hv : stV l = true) (n : Int) : spB (-1) (atL n l) = true ∧ ∀ t, memL (atL n l) t = (decide (0 ≤ t) && decide (t < 1099511627776) && decide (n ≤ valF 0 l t)) := by
  obtain ⟨h1, h2, _, h4⟩ := jn_ok (hiT_asc hv n l.length (Nat.le_refl _)).1
  unfold atL
  rw [h4]
  refine ⟨h1, fun t => ?_⟩
  rw [h2, hiT_mem hv n t l.length (Nat.le_refl _), List.take_length]
  have : endAt l l.length = 1099511627776 := by
    cases hl : l.length with
    | zero => obtain rfl := List.eq_nil_of_length_eq_zero hl; cases hv
    | succ k => show toAt l k = _; unfold toAt; rw [List.getElem?_eq_none (by omega)]
  rw [this]
/-- The program's AtLeast is the reference's. -/
theorem ofL_hi {l : List (Int × Int)} (hv : stV l = true) (n : Int) : ofL (hiT n l l.length) = atL n l := by
  obtain ⟨h1, h2, _, h4⟩ := jn_ok (hiT_asc hv n l.length (Nat.le_refl _)).1
  unfold atL
  rw [h4]
  exact comb_self rfl h1 fun t => (h2 t).symm
theorem plcs_append (acc l m : List (Int × Int)) : plcs acc (l ++ m) = plcs (plcs acc l) m := by unfold plcs; rw [List.foldl_append]
/-- The reference's Levels behind n levels. -/
def rlv (l : List (Int × Int)) : Nat → List (Int × Int)
  | 0 => []
  | n + 1 => plcs (rlv l n) (atL ((n : Int) + 1) l)
theorem rlv_facts (l : List (Int × Int)) : ∀ n, srtL (rlv l n) ∧ (rlv l n).Perm ((List.range n).flatMap fun i : Nat => atL ((i : Int) + 1) l)
  | 0 => ⟨.nil, by simp [rlv]⟩
  | n + 1 => by
    obtain ⟨h1, h2⟩ := rlv_facts l n
    obtain ⟨h3, h4⟩ := plcs_facts (atL ((n : Int) + 1) l) (rlv l n) h1
    refine ⟨h3, h4.trans ?_⟩
    rw [List.range_succ, List.flatMap_append, List.flatMap_cons, List.flatMap_nil, List.append_nil]
    exact h2.append_right _
theorem lvl_len {l : List (Int × Int)} {K : Nat} (h : ∀ p ∈ l, cl p.2 ≤ K) : (lvRun l).1.length ≤ K := by
  have aux : ∀ (l : List (Int × Int)) (S : List Int × List (Int × Int)), (∀ p ∈ l, cl p.2 ≤ K) → S.1.length ≤ K → (l.foldl lvStep S).1.length ≤ K := by
    intro l
    induction l with
    | nil => intro S _ h; exact h
    | cons p l ih =>
      intro S hp hS
      refine ih _ (fun q hq => hp q (List.mem_cons_of_mem _ hq)) ?_
      have hc := hp p (by simp)
      unfold lvStep
      split
      · show (S.1.take _).length ≤ _
        rw [List.length_take]; omega
      · show (S.1 ++ List.replicate _ _).length ≤ _
        rw [List.length_append, List.length_replicate]; omega
  exact aux l ([], []) h (by simp)
theorem levL_perm {l : List (Int × Int)} (hv : stV l = true) {K : Nat} (hK : K ≤ 1048576) (h : ∀ p ∈ l, cl p.2 ≤ K) : srtL (levL l) ∧ (levL l).Perm ((List.range K).flatMap fun i : Nat => atL ((i : Int) + 1) l) := by
  obtain ⟨h1, h2⟩ := plcs_facts (lvAll l) [] .nil
  refine ⟨h1, (by simpa [levL] using h2 : (levL l).Perm (lvAll l)).trans ((lvAll_perm h (lvl_len h)).trans ?_)⟩
  refine List.Perm.of_eq ?_
  have aux : ∀ L : List Nat, (∀ i ∈ L, i < 1048576) → L.flatMap (fun i => lvP i l) = L.flatMap (fun i : Nat => atL ((i : Int) + 1) l) := by
    intro L
    induction L with
    | nil => intro _; rfl
    | cons i L ih =>
      intro hL
      rw [List.flatMap_cons, List.flatMap_cons, ih (fun j hj => hL j (List.mem_cons_of_mem _ hj)), lvP_eq hv i (hL i (by simp))]
  exact aux _ fun i hi => by have := List.mem_range.1 hi; omega
theorem rlv_levL {l : List (Int × Int)} (hv : stV l = true) {K : Nat} (hK : K ≤ 1048576) (h : ∀ p ∈ l, cl p.2 ≤ K) : rlv l K = levL l := by
  obtain ⟨a1, a2⟩ := rlv_facts l K
  obtain ⟨b1, b2⟩ := levL_perm hv hK h
  exact srtL_ext a1 b1 (a2.trans b2.symm)
end Go.Proofs.Ytbpjgipldddcfaa
