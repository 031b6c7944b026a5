import Derived.Test.YtbpjgipldddcfaaGMa
import Derived.WalkKit
import Derived.WalkSpells
import Derived.WalkLawsBesides
import Derived.Deep.QuietTactic
import Derived.BigQuiet
import Derived.Handy
import Derived.Lib.Hide
/-
  Mathematics of levels: the periods of all levels are those of the sets of instants with values of at least n, for each n. Conditions: none.
-/
namespace Go.Proofs.Ytbpjgipldddcfaa
set_option maxRecDepth 100000
set_option linter.unusedVariables false
set_option linter.unusedSimpArgs false
open Go.RowKit

/-- One step on one level: its start, if it is open, and its closed periods. -/
def lvC (i : Nat) (S : Option Int × List (Int × Int)) (p : Int × Int) : Option Int × List (Int × Int) :=
  match S.1 with
  | some f => if i < cl p.2 then S else (none, S.2 ++ [(f, p.1)])
  | none => if i < cl p.2 then (some p.1, S.2) else S
def lvCRun (i : Nat) (l : List (Int × Int)) : Option Int × List (Int × Int) := l.foldl (lvC i) (none, [])
theorem lvCRun_step {i : Nat} {l : List (Int × Int)} {k : Nat} {p : Int × Int} (h : l[k]? = some p) : lvCRun i (l.take (k + 1)) = lvC i (lvCRun i (l.take k)) p := by
  rw [take_snocP h]; unfold lvCRun; rw [List.foldl_append]; rfl
theorem lv_start (i : Nat) : ∀ (l : List (Int × Int)) (S : List Int × List (Int × Int)) (T : Option Int × List (Int × Int)), S.1[i]? = T.1 → (l.foldl lvStep S).1[i]? = (l.foldl (lvC i) T).1
  | [], _, _, h => h
  | p :: l, S, T, h => by
    refine lv_start i l _ _ ?_
    obtain ⟨E, out⟩ := S
    obtain ⟨o, C⟩ := T
    dsimp only at h
    unfold lvStep lvC
    dsimp only
    by_cases hle : cl p.2 ≤ E.length
    · rw [if_pos hle]
      dsimp only
      rw [List.getElem?_take]
      cases o with
      | some f =>
        by_cases hi : i < cl p.2
        · simp [hi, h]
        · simp [hi]
      | none =>
        by_cases hi : i < cl p.2
        · have := List.getElem?_eq_none_iff.1 h
          omega
        · simp [hi]
    · rw [if_neg hle]
      dsimp only
      cases o with
      | some f =>
        obtain ⟨hlt, _⟩ := List.getElem?_eq_some_iff.1 h
        have hi : i < cl p.2 := by omega
        rw [List.getElem?_append_left hlt, h]
        simp [hi]
      | none =>
        have hge := List.getElem?_eq_none_iff.1 h
        rw [List.getElem?_append_right hge, List.getElem?_replicate]
        by_cases hi : i < cl p.2
        · rw [if_pos (by omega)]
          simp [hi]
        · rw [if_neg (by omega)]
          simp [hi]
theorem flatMap_app {α : Type} (f g : Nat → List α) : ∀ L : List Nat, (L.flatMap fun i => f i ++ g i).Perm (L.flatMap f ++ L.flatMap g)
  | [] => List.Perm.refl _
  | i :: L => by
    simp only [List.flatMap_cons]
    have h := flatMap_app f g L
    refine (h.append_left (f i ++ g i)).trans ?_
    rw [List.append_assoc, List.append_assoc]
    refine List.Perm.append_left _ ?_
    rw [← List.append_assoc, ← List.append_assoc]
    exact (List.perm_append_comm).append_right _
/-- What is closed on level i, of the open starts E, when the level falls to n. -/
def clsd (E : List Int) (n : Nat) (x : Int) (i : Nat) : List (Int × Int) := if n ≤ i then (E[i]?.toList).map fun f => (f, x) else []
theorem clsd_all (E : List Int) (n : Nat) (x : Int) : ∀ K, (List.range K).flatMap (clsd E n x) = ((E.take K).drop n).map fun f => (f, x)
  | 0 => by simp
  | K + 1 => by
    rw [List.range_succ, List.flatMap_append, clsd_all E n x K, List.flatMap_cons, List.flatMap_nil, List.append_nil]
    unfold clsd
    cases hE : E[K]? with
    | none =>
      have := List.getElem?_eq_none_iff.1 hE
      rw [List.take_of_length_le (by omega), List.take_of_length_le (by omega)]
      simp
    | some f =>
      obtain ⟨hlt, he⟩ := List.getElem?_eq_some_iff.1 hE
      rw [List.take_succ_eq_append_getElem hlt, he]
      by_cases hn : n ≤ K
      · rw [if_pos hn, List.drop_append_of_le_length (by rw [List.length_take]; omega)]
        simp
      · rw [if_neg hn, List.append_nil, List.drop_of_length_le (by rw [List.length_take]; omega), List.drop_of_length_le (by rw [List.length_append, List.length_take]; simp; omega)]
theorem lv_closed (K : Nat) : ∀ (l : List (Int × Int)) (S : List Int × List (Int × Int)) (T : Nat → Option Int × List (Int × Int)), (∀ i, S.1[i]? = (T i).1) → S.1.length ≤ K → (∀ p ∈ l, cl p.2 ≤ K) → S.2.Perm ((List.range K).flatMap fun i => (T i).2) →
    (l.foldl lvStep S).2.Perm ((List.range K).flatMap fun i => (l.foldl (lvC i) (T i)).2)
  | [], _, _, _, _, _, h => h
  | p :: l, S, T, h1, h2, h3, h4 => by
    refine lv_closed K l (lvStep S p) (fun i => lvC i (T i) p) (fun i => lv_start i [p] S (T i) (h1 i)) ?_ (fun q hq => h3 q (List.mem_cons_of_mem _ hq)) ?_
    · have hc := h3 p (by simp)
      unfold lvStep
      split
      · show (S.1.take _).length ≤ K
        rw [List.length_take]; omega
      · show (S.1 ++ List.replicate _ _).length ≤ K
        rw [List.length_append, List.length_replicate]; omega
    · have hstep : ∀ i, (lvC i (T i) p).2 = (T i).2 ++ clsd S.1 (cl p.2) p.1 i := by
        intro i
        have hi := h1 i
        unfold lvC clsd
        cases ho : (T i).1 with
        | none =>
          rw [ho] at hi
          rw [hi]
          dsimp only
          split <;> simp
        | some f =>
          rw [ho] at hi
          rw [hi]
          dsimp only
          by_cases hlt : i < cl p.2
          · rw [if_pos hlt, if_neg (by omega), List.append_nil]
          · rw [if_neg hlt, if_pos (by omega)]
            rfl
      simp only [hstep]
      refine List.Perm.trans ?_ (flatMap_app (fun i => (T i).2) (clsd S.1 (cl p.2) p.1) (List.range K)).symm
      rw [clsd_all, List.take_of_length_le h2]
      unfold lvStep
      split
      · exact h4.append_right _
      · rw [List.drop_of_length_le (by omega), List.map_nil, List.append_nil]
        exact h4
/-- The periods of level i. -/
def lvP (i : Nat) (l : List (Int × Int)) : List (Int × Int) := (lvCRun i l).2 ++ ((lvCRun i l).1.toList).map fun f => (f, 1099511627776)
theorem lvAll_perm {l : List (Int × Int)} {K : Nat} (h : ∀ p ∈ l, cl p.2 ≤ K) (hK : (lvRun l).1.length ≤ K) : (lvAll l).Perm ((List.range K).flatMap fun i => lvP i l) := by
  have hc := lv_closed K l ([], []) (fun _ => (none, [])) (fun i => by simp) (by simp) h (by simp)
  have hs : ∀ i, (lvRun l).1[i]? = (lvCRun i l).1 := fun i => lv_start i l ([], []) (none, []) (by simp)
  have he : (List.range K).flatMap (fun i => ((lvCRun i l).1.toList).map fun f => (f, (1099511627776 : Int))) = (lvRun l).1.map fun f => (f, 1099511627776) := by
    have := clsd_all (lvRun l).1 0 1099511627776 K
    rw [List.take_of_length_le hK, List.drop_zero] at this
    rw [← this]
    congr 1
    funext i
    unfold clsd
    rw [if_pos (Nat.zero_le i), hs i]
  unfold lvAll lvP
  refine List.Perm.trans ?_ (flatMap_app (fun i => (lvCRun i l).2) (fun i => ((lvCRun i l).1.toList).map fun f => (f, (1099511627776 : Int))) (List.range K)).symm
  rw [he]
  exact hc.append_right _
theorem rstep_touch (C : List (Int × Int)) (f x y : Int) (h : x ≤ y) : rstep (C ++ [(f, x)]) (x, y) = C ++ [(f, y)] := by
  unfold rstep
  simp
  omega
theorem rstep_gap (C : List (Int × Int)) (x y : Int) (h : ∀ q ∈ C, q.2 < x) : rstep C (x, y) = C ++ [(x, y)] := by
  unfold rstep
  cases hC : C.getLast? with
  | none => rfl
  | some q =>
    have := h q (List.mem_of_getLast? hC)
    dsimp only
    rw [if_neg (by omega)]
theorem cl_iff (i : Nat) (v : Int) (hi : i < 1048576) : i < cl v ↔ (i : Int) + 1 ≤ v := by unfold cl; omega
/-- What one level holds behind k steps. -/
structure LvInv (l : List (Int × Int)) (i k : Nat) : Prop where
  eq : (hiT ((i : Int) + 1) l k).foldl rstep [] = (lvCRun i (l.take k)).2 ++ ((lvCRun i (l.take k)).1.toList).map fun f => (f, toAt l (k - 1))
  low : ∀ q ∈ (lvCRun i (l.take k)).2, ∀ p, l[k - 1]? = some p → q.2 ≤ p.1
theorem stT_next : ∀ (l : List (Int × Int)) (x n : Int), stT x n l = true → ∀ (k : Nat) (p q : Int × Int), ((x, n) :: l)[k]? = some p → ((x, n) :: l)[k + 1]? = some q → p.1 < q.1
  | [], _, _, _, k, p, q, _, h2 => by simp at h2
  | (y, m) :: l, x, n, h, 0, p, q, h1, h2 => by
    obtain ⟨a, _⟩ := stT_cons.1 h
    simp at h1 h2
    subst h1 h2
    exact a
  | (y, m) :: l, x, n, h, k + 1, p, q, h1, h2 => by
    obtain ⟨_, _, _, d⟩ := stT_cons.1 h
    exact stT_next l y m d k p q (by simpa using h1) (by simpa using h2)
theorem stV_next {l : List (Int × Int)} (h : stV l = true) {k : Nat} {p q : Int × Int} (h1 : l[k]? = some p) (h2 : l[k + 1]? = some q) : p.1 < q.1 := by
  cases l with
  | nil => cases h
  | cons r l =>
    obtain ⟨x, n⟩ := r
    have h3 : (decide (x = 0) && stT x n l) = true := h
    rw [Bool.and_eq_true] at h3
    exact stT_next l x n h3.2 k p q h1 h2
theorem lv_inv {l : List (Int × Int)} (hv : stV l = true) (i : Nat) (hi : i < 1048576) : ∀ k, k ≤ l.length → LvInv l i k
  | 0, _ => ⟨rfl, fun q hq => by simp [lvCRun] at hq⟩
  | k + 1, hk => by
    have ih := lv_inv hv i hi k (by omega)
    have hx := List.getElem?_eq_getElem (show k < l.length by omega)
    generalize l[k] = s at hx
    obtain ⟨x, v⟩ := s
    have hrun := lvCRun_step (i := i) hx
    have hto : x ≤ toAt l k := by
      unfold toAt
      cases hy : l[k + 1]? with
      | none => have := stV_range hv _ (List.mem_of_getElem? hx); show x ≤ 1099511627776; omega
      | some q => exact Int.le_of_lt (stV_next hv hx hy)
    have hprev : 0 < k → toAt l (k - 1) = x := fun h0 => by
      unfold toAt
      rw [show k - 1 + 1 = k by omega, hx]
    have hlow : ∀ q ∈ (lvCRun i (l.take k)).2, q.2 < x := fun q hq => by
      by_cases h0 : 0 < k
      · have hp := List.getElem?_eq_getElem (show k - 1 < l.length by omega)
        have h1 := ih.low q hq _ hp
        have h2 := stV_next hv hp (by rw [show k - 1 + 1 = k by omega]; exact hx)
        dsimp only at h2
        omega
      · obtain rfl : k = 0 := by omega
        simp [lvCRun] at hq
    have heq := ih.eq
    have hcl := cl_iff i v hi
    have hopen : k = 0 → (lvCRun i (l.take k)).1 = none := fun h => by subst h; rfl
    generalize lvCRun i (l.take k) = T at *
    obtain ⟨o, C⟩ := T
    dsimp only at *
    refine ⟨?_, ?_⟩
    · rw [hiT_step hx, List.foldl_append, heq, hrun]
      unfold lvC
      dsimp only
      rw [show k + 1 - 1 = k by omega]
      cases o with
      | some f =>
        have h0 : 0 < k := by
          rcases Nat.eq_zero_or_pos k with h | h
          · have := hopen h; cases this
          · exact h
        rw [hprev h0]
        by_cases hlt : i < cl v
        · rw [if_pos (hcl.1 hlt)]
          show rstep (C ++ [(f, x)]) (x, toAt l k) = _
          rw [rstep_touch C f x _ hto]
          simp [hlt]
        · rw [if_neg (fun h => hlt (hcl.2 h))]
          simp [hlt]
      | none =>
        by_cases hlt : i < cl v
        · rw [if_pos (hcl.1 hlt)]
          show rstep (C ++ []) (x, toAt l k) = _
          rw [List.append_nil, rstep_gap C x _ hlow]
          simp [hlt]
        · rw [if_neg (fun h => hlt (hcl.2 h))]
          simp [hlt]
    · rw [hrun, show k + 1 - 1 = k by omega, hx]
      intro q hq p hp
      have hp2 : (x, v) = p := by simpa using hp
      subst hp2
      unfold lvC at hq
      dsimp only at hq ⊢
      cases o with
      | some f =>
        dsimp only at hq
        split at hq
        · exact Int.le_of_lt (hlow q hq)
        · rcases List.mem_append.1 hq with hq | hq
          · exact Int.le_of_lt (hlow q hq)
          · simp at hq; subst hq; exact Int.le_refl _
      | none =>
        dsimp only at hq
        split at hq
        · exact Int.le_of_lt (hlow q hq)
        · exact Int.le_of_lt (hlow q hq)
/-- The periods of level i are those of the instants with a value of more than i. -/
theorem lvP_eq {l : List (Int × Int)} (hv : stV l = true) (i : Nat) (hi : i < 1048576) : lvP i l = atL ((i : Int) + 1) l := by
  have h := (lv_inv hv i hi l.length (Nat.le_refl _)).eq
  rw [List.take_length] at h
  unfold atL lvP
  rw [h]
  have ht : toAt l (l.length - 1) = 1099511627776 := by
    unfold toAt
    rw [List.getElem?_eq_none (by omega)]
  rw [ht]
end Go.Proofs.Ytbpjgipldddcfaa
