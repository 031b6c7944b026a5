import Derived.Test.YtbpjgipldddcfaaGK
import Derived.Test.YtbpjgipldddcfaaGA
import Derived.WalkKit
import Derived.WalkSpells
import Derived.WalkLawsBesides
import Derived.Deep.QuietTactic
import Derived.BigQuiet
import Derived.Handy
import Derived.Lib.Hide
/-
  Lists of counted periods; the reference's Of. Conditions: at most 10000 pieces.
-/
namespace Go.Proofs.Ytbpjgipldddcfaa
set_option maxRecDepth 100000
set_option linter.unusedVariables false
set_option linter.unusedSimpArgs false
open Go.RowKit

theorem RdB.step {w w' : World} {L B : Nat} {v : Value} {l : List Bd} (h : RdB w L B v l) (hb : Below w.heap.size w w') (hB : B ≤ w.heap.size) : RdB w' L w'.heap.size v l :=
  (h.below (hb.mono hB)).more (Nat.le_trans hB hb.size) (Nat.le_refl _)
/-- An element's cells, spelled as the walk spells them. -/
theorem RdB.atw {w : World} {L B : Nat} {A : Option Addr} {m c : Nat} {l : List Bd} (h : RdB w L B (.slice A m c) l) {k : Nat} {x y z : Int} (hk : l[k]? = some (x, y, z)) : ∃ ad : Addr, A = some ad ∧ L ≤ ad.block ∧ ad.block < B ∧
    w.cell? (ad.add (k * 3)) = some (.int .i64 x) ∧ w.cell? ⟨(ad.add (k * 3)).block, (ad.add (k * 3)).off + 1, none⟩ = some (.int .i64 y) ∧ w.cell? ⟨(ad.add (k * 3)).block, (ad.add (k * 3)).off + 2, none⟩ = some (.int .i64 z) := by
  obtain ⟨ad, h1, h2, h3, c0, c1, c2⟩ := h.at hk
  rw [add_next] at c1
  rw [add_next2] at c2
  exact ⟨ad, h1, h2, h3, c0, c1, c2⟩
/-- The points of a list of pieces. -/
def ptsA (acc : List Int) (l : List Pc) : List Int := l.foldl (fun p c => if okPc c then insI c.2.1 (insI c.1 p) else p) acc
theorem take_snocC {l : List Pc} {k : Nat} {x : Pc} (hx : l[k]? = some x) : l.take (k + 1) = l.take k ++ [x] := by
  obtain ⟨h, rfl⟩ := List.getElem?_eq_some_iff.1 hx
  exact List.take_succ_eq_append_getElem h
theorem ptsA_step {acc : List Int} {l : List Pc} {k : Nat} {c : Pc} (h : l[k]? = some c) : ptsA acc (l.take (k + 1)) = if okPc c then insI c.2.1 (insI c.1 (ptsA acc (l.take k))) else ptsA acc (l.take k) := by
  rw [take_snocC h]; unfold ptsA; rw [List.foldl_append]; rfl
theorem ptsA_len (acc : List Int) : ∀ l : List Pc, (ptsA acc l).length ≤ acc.length + 2 * l.length := by
  intro l
  induction l generalizing acc with
  | nil => simp [ptsA]
  | cons c l ih =>
    have h2 := insI_len c.2.1 (insI c.1 acc)
    have h3 := insI_len c.1 acc
    show (ptsA (if okPc c then insI c.2.1 (insI c.1 acc) else acc) l).length ≤ _
    have h1 := ih (if okPc c then insI c.2.1 (insI c.1 acc) else acc)
    simp only [List.length_cons]
    split at h1 <;> split <;> first | omega | contradiction
theorem refS_step {l : List Pc} {k : Nat} {c : Pc} (t : Int) (h : l[k]? = some c) : refS (l.take (k + 1)) t = if cnt c.1 c.2.1 t then IntKind.i64.wrap (refS (l.take k) t + c.2.2) else refS (l.take k) t := by
  rw [take_snocC h]; unfold refS; rw [List.foldl_append]; rfl
theorem RdI.one (w : World) (x : Int) (t : TypeId) : RdI (w.alloc (.cells #[.int .i64 x] t)) w.heap.size (w.heap.size + 1) (.slice (some ⟨w.heap.size, 0, none⟩) 1 1) [x] := by
  refine ⟨_, 1, rfl, by simp, fun k p hk => ?_⟩
  match k, hk with
  | 0, hk =>
    have hk : x = p := by simpa using hk
    subst hk
    exact ⟨_, rfl, Nat.le_refl _, Nat.lt_succ_self _, cell_one_new w (.int .i64 x) t 0 _ rfl⟩
  | k + 1, hk => simp at hk
theorem ptsA_facts : ∀ (l : List Pc) (acc : List Int), acc.Pairwise (· < ·) → (ptsA acc l).Pairwise (· < ·) ∧ ∀ x, x ∈ ptsA acc l ↔ x ∈ acc ∨ ∃ c ∈ l, okPc c = true ∧ (x = c.1 ∨ x = c.2.1)
  | [], acc, h => ⟨h, fun x => by simp [ptsA]⟩
  | c :: l, acc, h => by
    have hstep : ptsA acc (c :: l) = ptsA (if okPc c then insI c.2.1 (insI c.1 acc) else acc) l := rfl
    cases hc : okPc c with
    | false =>
      rw [hc, if_neg (by decide)] at hstep
      obtain ⟨h1, h2⟩ := ptsA_facts l acc h
      rw [hstep]
      refine ⟨h1, fun x => ?_⟩
      rw [h2 x]
      constructor
      · rintro (hx | ⟨d, hd, e⟩)
        · exact .inl hx
        · exact .inr ⟨d, List.mem_cons_of_mem _ hd, e⟩
      · rintro (hx | ⟨d, hd, e⟩)
        · exact .inl hx
        · rcases List.mem_cons.1 hd with rfl | hd
          · rw [hc] at e; cases e.1
          · exact .inr ⟨d, hd, e⟩
    | true =>
      rw [hc, if_pos rfl] at hstep
      obtain ⟨h1, h2⟩ := ptsA_facts l _ (insI_sorted (n := c.2.1) (insI_sorted (n := c.1) h))
      rw [hstep]
      refine ⟨h1, fun x => ?_⟩
      rw [h2 x, insI_mem, insI_mem]
      constructor
      · rintro ((rfl | rfl | hx) | ⟨d, hd, e⟩)
        · exact .inr ⟨c, by simp, hc, .inr rfl⟩
        · exact .inr ⟨c, by simp, hc, .inl rfl⟩
        · exact .inl hx
        · exact .inr ⟨d, List.mem_cons_of_mem _ hd, e⟩
      · rintro (hx | ⟨d, hd, e⟩)
        · exact .inl (.inr (.inr hx))
        · rcases List.mem_cons.1 hd with rfl | hd
          · rcases e.2 with rfl | rfl
            · exact .inl (.inr (.inl rfl))
            · exact .inl (.inl rfl)
          · exact .inr ⟨d, hd, e⟩
theorem ptsA_sorted (l : List Pc) : (ptsA [0] l).Pairwise (· < ·) := (ptsA_facts l [0] (by simp)).1
/-- The reference's sum of pieces. -/
def ofR (l : List Pc) : List (Int × Int) := nrmV (refS l) ((ptsA [0] l).filter fun x => decide (x < 1099511627776))

theorem filt_all {P : List Int} {k : Nat} (hT : P.take k = P) (h : ∀ x ∈ P.take k, x < 1099511627776) : (P.filter fun z => decide (z < 1099511627776)) = P.take k := by
  rw [hT] at h ⊢
  exact List.filter_eq_self.2 fun x hx => decide_eq_true (h x hx)
theorem filt_take {P : List Int} {k : Nat} {x : Int} (hs : P.Pairwise (· < ·)) (h : ∀ x ∈ P.take k, x < 1099511627776) (hx : P[k]? = some x) (hn : ¬ x < 1099511627776) : (P.filter fun z => decide (z < 1099511627776)) = P.take k := by
  have hs2 := hs
  rw [← List.take_append_drop k P] at hs2 ⊢
  rw [List.filter_append, List.filter_eq_self.2 (fun x hx => decide_eq_true (h x hx))]
  have hd : P.drop k = x :: P.drop (k + 1) := by
    obtain ⟨hk, rfl⟩ := List.getElem?_eq_some_iff.1 hx
    exact List.drop_eq_getElem_cons hk
  have hnil : (P.drop k).filter (fun z => decide (z < 1099511627776)) = [] := by
    rw [List.filter_eq_nil_iff]
    intro y hy
    rw [hd] at hy
    have hp := (List.pairwise_append.1 hs2).2.1
    rw [hd] at hp
    rcases List.mem_cons.1 hy with rfl | hy
    · simpa using hn
    · have := (List.pairwise_cons.1 hp).1 y hy
      simp; omega
  rw [hnil, List.append_nil]
  simp [List.take_append_drop]
end Go.Proofs.Ytbpjgipldddcfaa
