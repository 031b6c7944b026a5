import Derived.Test.YtbpjgipldddcfaaGMd
import Derived.WalkKit
import Derived.WalkSpells
import Derived.WalkLawsBesides
import Derived.Deep.QuietTactic
import Derived.BigQuiet
import Derived.Handy
import Derived.Lib.Hide
/-
  More mathematics of levels. Conditions: none.
-/
namespace Go.Proofs.Ytbpjgipldddcfaa
set_option maxRecDepth 100000
set_option linter.unusedVariables false
set_option linter.unusedSimpArgs false
open Go.RowKit

theorem grt_aux (l : List (Int × Int)) : ∀ k i, i < k → grt.wlv l i ≤ grt l k
  | 0, i, h => by omega
  | k + 1, i, h => by
    have ih := fun h2 => grt_aux l k i h2
    unfold grt
    by_cases hi : i = k
    · subst hi
      split <;> omega
    · have := ih (by omega)
      split <;> omega
theorem grt_le {l : List (Int × Int)} : ∀ p ∈ l, p.2 ≤ grt l l.length := by
  intro p hp
  obtain ⟨i, hi, rfl⟩ := List.getElem_of_mem hp
  have := grt_aux l l.length i hi
  have e : grt.wlv l i = l[i].2 := by
    unfold grt.wlv
    rw [List.getD_eq_getElem?_getD, List.getElem?_eq_getElem hi]
    rfl
  omega
theorem cl12 {l : List (Int × Int)} (h : ∀ p ∈ l, p.2 ≤ 12) : ∀ p ∈ l, cl p.2 ≤ 12 := fun p hp => by have := h p hp; unfold cl; omega
theorem lev_len {l : List (Int × Int)} (hv : stV l = true) (hlen : l.length ≤ 24) (h : ∀ p ∈ l, p.2 ≤ 12) : (levL l).length ≤ 288 := by
  rw [← rlv_levL hv (by decide) (cl12 h)]
  have := rlv_len l 12
  omega
/-- What is just outside a period of a set. -/
theorem sp_edges : ∀ {z : Int} {m : List (Int × Int)} {p : Int × Int}, spB z m = true → p ∈ m → vld p.1 p.2 = true ∧ z < p.1 ∧ memL m p.2 = false ∧ memL m (p.1 - 1) = false ∧ ∀ t, p.1 ≤ t → t < p.2 → memL m t = true
  | z, [], p, _, h => by cases h
  | z, q :: m, p, h, hp => by
    obtain ⟨x, y⟩ := q
    have hs : (decide (z < x) && vld x y && spB y m) = true := h
    rw [Bool.and_eq_true, Bool.and_eq_true] at hs
    obtain ⟨⟨h1, h2⟩, h3⟩ := hs
    have h1 := of_decide_eq_true h1
    have hv := vld_iff.1 h2
    have hb : ∀ t, t ≤ y → memL ((x, y) :: m) t = (decide (x ≤ t) && decide (t < y)) := fun t ht => sp_at (z := z) (p := (x, y)) (l := m) h t ht
    rcases List.mem_cons.1 hp with rfl | hp
    · refine ⟨h2, h1, ?_, ?_, fun t ha hb2 => ?_⟩
      · rw [hb y (Int.le_refl _)]; simp
      · rw [hb (x - 1) (by omega), show decide (x ≤ x - 1) = false from decide_eq_false (by omega)]; rfl
      · dsimp only at ha hb2
        rw [hb t (by omega), decide_eq_true ha, decide_eq_true hb2]; rfl
    · obtain ⟨a, b, c, d, e⟩ := sp_edges h3 hp
      have hpv := vld_iff.1 a
      have hc : ∀ t, y ≤ t → memL ((x, y) :: m) t = memL m t := fun t ht => by
        rw [memL_cons]
        have : cnt x y t = false := by
          rw [Bool.eq_false_iff]; intro hh
          have := cnt_iff.1 hh
          omega
        rw [this]; rfl
      refine ⟨a, by omega, by rw [hc _ (by omega)]; exact c, ?_, fun t ha hb2 => by rw [hc t (by omega)]; exact e t ha hb2⟩
      by_cases hy : y ≤ p.1 - 1
      · rw [hc _ hy]; exact d
      · omega
/-- Periods of two nested sets are disjoint, or that of the smaller set lies in the other. -/
theorem sp_nest {m1 m2 : List (Int × Int)} {p q : Int × Int} (h1 : spB (-1) m1 = true) (h2 : spB (-1) m2 = true) (hs : ∀ t, memL m2 t = true → memL m1 t = true) (hp : p ∈ m1) (hq : q ∈ m2) (ho : ovl p.1 p.2 q.1 q.2 = true) : cvr p.1 p.2 q.1 q.2 = true := by
  obtain ⟨a1, _, c1, d1, _⟩ := sp_edges h1 hp
  obtain ⟨a2, _, _, _, e2⟩ := sp_edges h2 hq
  have v1 := vld_iff.1 a1
  have v2 := vld_iff.1 a2
  unfold ovl at ho
  rw [a1, a2] at ho
  simp at ho
  have k1 : p.1 ≤ q.1 := by
    rcases Int.lt_or_le q.1 p.1 with h | h
    · have := hs _ (e2 (p.1 - 1) (by omega) (by omega))
      rw [d1] at this; cases this
    · exact h
  have k2 : q.2 ≤ p.2 := by
    rcases Int.lt_or_le p.2 q.2 with h | h
    · have := hs _ (e2 p.2 (by omega) h)
      rw [c1] at this; cases this
    · exact h
  unfold cvr
  rw [a1, a2, decide_eq_true k1, decide_eq_true k2]
  rfl
theorem ovl_comm (a b c d : Int) : ovl a b c d = ovl c d a b := by
  unfold ovl
  cases vld a b <;> cases vld c d <;> simp [Bool.and_comm]
theorem atL_sub {l : List (Int × Int)} (hv : stV l = true) {n n' : Int} (h : n ≤ n') (t : Int) (ht : memL (atL n' l) t = true) : memL (atL n l) t = true := by
  rw [(atL_sp hv n').2 t] at ht
  rw [(atL_sp hv n).2 t]
  simp at ht ⊢
  omega
/-- Two levels' periods are disjoint, or one covers the other. -/
theorem lev_nest {l : List (Int × Int)} (hv : stV l = true) (h : ∀ p ∈ l, p.2 ≤ 12) {p q : Int × Int} (hp : p ∈ levL l) (hq : q ∈ levL l) (ho : ovl p.1 p.2 q.1 q.2 = true) : cvr p.1 p.2 q.1 q.2 = true ∨ cvr q.1 q.2 p.1 p.2 = true := by
  obtain ⟨_, hperm⟩ := levL_perm hv (K := 12) (by decide) (cl12 h)
  obtain ⟨i, _, hi⟩ := List.mem_flatMap.1 (hperm.mem_iff.1 hp)
  obtain ⟨j, _, hj⟩ := List.mem_flatMap.1 (hperm.mem_iff.1 hq)
  rcases Nat.le_total i j with hij | hij
  · exact .inl (sp_nest (atL_sp hv _).1 (atL_sp hv _).1 (fun t => atL_sub hv (by omega) t) hi hj ho)
  · exact .inr (sp_nest (atL_sp hv _).1 (atL_sp hv _).1 (fun t => atL_sub hv (by omega) t) hj hi (by rw [ovl_comm]; exact ho))
/-- A period as a piece of number 1. -/
def oneP (p : Int × Int) : Pc := (p.1, p.2, 1)
theorem sum_one (m : List (Int × Int)) (t : Int) (z : Int) (h : spB z m = true) : sumT (m.map oneP) t = if memL m t = true then 1 else 0 := by
  induction m generalizing z with
  | nil => rfl
  | cons q m ih =>
    obtain ⟨x, y⟩ := q
    have hs : (decide (z < x) && vld x y && spB y m) = true := h
    rw [Bool.and_eq_true, Bool.and_eq_true] at hs
    obtain ⟨⟨_, h2⟩, h3⟩ := hs
    rw [List.map_cons, sumT_cons, ih y h3, memL_cons]
    show (if cnt x y t = true then (1 : Int) else 0) + _ = _
    cases hc : cnt x y t with
    | false => simp
    | true =>
      have hc2 := cnt_iff.1 hc
      have : memL m t = false := asc_before (spB_asc y m h3) (by omega)
      rw [this]
      rfl
theorem sum_flat (f : Nat → List (Int × Int)) (t : Int) : ∀ L : List Nat, sumT ((L.flatMap f).map oneP) t = (L.map fun i => sumT ((f i).map oneP) t).sum
  | [] => rfl
  | i :: L => by rw [List.flatMap_cons, List.map_append, sumT_append, sum_flat f t L, List.map_cons, List.sum_cons]
theorem count_le (v : Int) (h0 : 0 ≤ v) : ∀ K : Nat, ((List.range K).map fun i : Nat => if (i : Int) + 1 ≤ v then (1 : Int) else 0).sum = min v K
  | 0 => by simp; omega
  | K + 1 => by
    rw [List.range_succ, List.map_append, List.sum_append, count_le v h0 K]
    simp only [List.map_cons, List.map_nil, List.sum_cons, List.sum_nil]
    split <;> omega
/-- The levels add up to the function. -/
theorem lev_sum {l : List (Int × Int)} (hv : stV l = true) (h : ∀ p ∈ l, p.2 ≤ 12) (t : Int) (h0 : 0 ≤ t) (hF : t < 1099511627776) (hn : 0 ≤ valF 0 l t) (h12 : valF 0 l t ≤ 12) : sumT ((levL l).map oneP) t = valF 0 l t := by
  obtain ⟨_, hperm⟩ := levL_perm hv (K := 12) (by decide) (cl12 h)
  rw [sumT_perm (hperm.map oneP), sum_flat]
  have e : ∀ i : Nat, sumT ((atL ((i : Int) + 1) l).map oneP) t = if (i : Int) + 1 ≤ valF 0 l t then 1 else 0 := by
    intro i
    obtain ⟨a, b⟩ := atL_sp hv ((i : Int) + 1)
    rw [sum_one _ t (-1) a, b t, decide_eq_true h0, decide_eq_true hF]
    simp
  simp only [e]
  rw [count_le _ hn 12]
  omega
theorem valF_le (t : Int) : ∀ (m : List (Int × Int)) (n : Int), n ≤ 12 → (∀ p ∈ m, p.2 ≤ 12) → valF n m t ≤ 12
  | [], n, hn, _ => hn
  | p :: m, n, hn, hm => by
    rw [valF_cons]
    exact valF_le t m _ (by split <;> first | exact hm p (by simp) | exact hn) (fun q hq => hm q (List.mem_cons_of_mem _ hq))
theorem lev_rebuilt {l : List (Int × Int)} (hv : stV l = true) (h : ∀ p ∈ l, p.2 ≤ 12) (hc : cmbL 4 l [(0, 0)] = l) : ofR ((levL l).map oneP) = l :=
  stV_ext (of_valid _) hv fun t h0 hF => by
    have hcv := cmb_val (kd := 4) (by omega) hv (b := [(0, 0)]) (by decide) t
    rw [hc] at hcv
    have hz : opV 4 (atV l t) (atV [(0, 0)] t) = max (atV l t) (atV [(0, 0)] t) := rfl
    have hz0 : atV [(0, 0)] t = 0 := by
      unfold atV
      rw [if_pos ⟨h0, hF⟩]
      show (if (0 : Int) ≤ t then (0 : Int) else 0) = 0
      split <;> rfl
    rw [hz, hz0] at hcv
    have hat : atV l t = valF 0 l t := by unfold atV; rw [if_pos ⟨h0, hF⟩]
    rw [hat] at hcv
    have h12 := valF_le t l 0 (by decide) h
    rw [of_val _ t h0 hF, refS_eq, lev_sum hv h t h0 hF (by omega) h12]
    exact IntWalk.i64_in _ (by omega)
end Go.Proofs.Ytbpjgipldddcfaa
