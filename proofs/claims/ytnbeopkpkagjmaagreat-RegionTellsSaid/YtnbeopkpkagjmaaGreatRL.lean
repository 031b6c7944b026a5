import Derived.Test.YtnbeopkpkagjmaaGreatRA
import Derived.WalkKit
import Derived.WalkSpells
import Derived.WalkLawsBesides
import Derived.Deep.QuietTactic
import Derived.BigQuiet
import Derived.Handy
import Derived.Lib.Hide
/-
  append of a row of rectangles to a row of one's own, as an operation of a region that draws. Conditions: lengths.
-/
namespace Go.Proofs.YtnbeopkpkagjmaaGreat
set_option maxRecDepth 100000
set_option linter.unusedVariables false
set_option linter.unusedSimpArgs false
open Go.RowKit

theorem flatR_one (l : List Rc) : ∀ u ∈ flatR l, u.oneCell' = true := by
  intro u hu
  unfold flatR at hu
  obtain ⟨p, _, h⟩ := List.mem_flatMap.1 hu
  simp at h
  rcases h with rfl | rfl | rfl | rfl <;> rfl
theorem flatR_cell {w : World} {ad : Addr} {m : List Rc} (h : ∀ (k : Nat) (r : Rc), m[k]? = some r → RcC w (ad.add (k * 4)) r) : ∀ j u, (flatR m)[j]? = some u → w.cell? (ad.add j) = some u := by
  intro j u hu
  have hj : j < (flatR m).length := (List.getElem?_eq_some_iff.1 hu).1
  rw [flatR_length] at hj
  have hk : j / 4 < m.length := by omega
  have hp := List.getElem?_eq_getElem hk
  obtain ⟨g0, g1, g2, g3⟩ := flatR_get m (j / 4) _ hp
  obtain ⟨k0, k1, k2, k3⟩ := h (j / 4) _ hp
  have h3 : j % 4 = 0 ∨ j % 4 = 1 ∨ j % 4 = 2 ∨ j % 4 = 3 := by omega
  rcases h3 with h0 | h0 | h0 | h0
  · have e : j / 4 * 4 = j := by omega
    rw [e] at g0 k0
    rw [g0] at hu; cases hu; exact k0
  · have e : j / 4 * 4 + 1 = j := by omega
    rw [← add_next, e] at k1
    rw [e] at g1
    rw [g1] at hu; cases hu; exact k1
  · have e : j / 4 * 4 + 1 + 1 = j := by omega
    have e2 : (⟨(ad.add (j / 4 * 4)).block, (ad.add (j / 4 * 4)).off + 2, none⟩ : Addr) = ad.add (j / 4 * 4 + 1 + 1) := by rw [add_next, add_next]
    rw [e2, e] at k2
    rw [show j / 4 * 4 + 2 = j by omega] at g2
    rw [g2] at hu; cases hu; exact k2
  · have e : j / 4 * 4 + 1 + 1 + 1 = j := by omega
    have e2 : (⟨(ad.add (j / 4 * 4)).block, (ad.add (j / 4 * 4)).off + 3, none⟩ : Addr) = ad.add (j / 4 * 4 + 1 + 1 + 1) := by rw [add_next, add_next, add_next]
    rw [e2, e] at k3
    rw [show j / 4 * 4 + 3 = j by omega] at g3
    rw [g3] at hu; cases hu; exact k3
/-- A row of rectangles is appended: the row of one's own grows, and only its block may have changed. -/
theorem step_append_rcs {ops : Array Oper} {o : Oper} {a : Act} {K : Act → World → Prop} {Q : Exit → Act → World → Prop} {E : Prop} (W : World) (hgd : o.guard = none) (s x : Operand)
    (ho : o.op = .call { callee := .builtin .append, args := #[s, x], argTypes := #[22, 22] }) (base : Nat) (v : Value) (l : List Rc) (hs : a.eval s = v)
    (hown : W.ownsRow base 35 4 v l.length (flatR l)) (L B : Nat) (A : Option Addr) (m : List Rc) (n c : Nat) (hx : a.eval x = .slice A n c) (hr : RdR W L B (.slice A n c) m)
    (hl : l.length + m.length ≤ 1000000000) (hbase : base ≤ W.heap.size)
    (h : ∀ v' w', w'.ownsRow base 35 4 v' (l ++ m).length (flatR (l ++ m)) → Below base W w' → W.grownBy w' v.ownBlock → K (a.put o.dst v') w') :
    if Region.wanted o (yielded ops a.tmps) = true then Oper.wp Tryz.prog o a W K Q else E := by
  have hw : Region.wanted o (yielded ops a.tmps) = true := by simp [Region.wanted, hgd]
  rw [if_pos hw]
  have hr0 := hr
  obtain ⟨A', c', hv, _, _, _⟩ := hr
  injection hv with e1 e2 e3
  subst e1 e2
  obtain ⟨i0, hi, hz0, hz1, hz2⟩ := info_parts infoRect
  cases A with
  | some ad =>
    refine wp_append_own W s x 22 ho base 35 i0 (.agg #[.int .i64 0, .int .i64 0, .int .i64 0, .int .i64 0]) 4 32 Tryz.underlying22 hi hz0 hz1 hz2 rfl (by decide) v l.length (flatR l) hs hown ad m.length c (flatR m) hx (flatR_length m)
      (flatR_cell fun k r hk => ?_) (flatR_one m) (by unfold maxLen; omega) (by omega) hbase ?_
    · obtain ⟨ad', e, _, _, k0⟩ := hr0.at hk
      injection e with e
      subst e
      exact k0
    · intro v' w' h1 h2 _
      exact h v' w' (by rw [flatR_append, List.length_append]; exact h1) ((Below.refl _ _).grown h2 hbase fun k hk => (hown.lt k hk).1) h2
  | none =>
    have hm : m = [] := by
      cases m with
      | nil => rfl
      | cons p m => obtain ⟨ad', e, _⟩ := hr0.at (k := 0) (r := p) rfl; cases e
    subst hm
    have hx' : a.eval x = .slice none 0 c := hx
    have hrun := run_append_nil W base 22 o.type 35 i0 4 Tryz.underlying22 hi v l.length (flatR l) hown c
    unfold Oper.wp
    simp only [execOp, ho, resolve, invoke, builtin, Sem.run_bind, Sem.run_pure, Result.andThen_ok, List.map_toArray, List.map_cons, List.map_nil, hs, hx', hrun]
    exact h v W (by rw [List.append_nil]; exact hown) (Below.refl _ _) ⟨rfl, rfl, rfl, Nat.le_refl _, fun _ _ _ => rfl⟩
end Go.Proofs.YtnbeopkpkagjmaaGreat
