/-
  append and calls of the program in regions that draw their order: as laws of one step. Conditions: lengths.
-/
import Derived.Test.YtclpemmpckjemaaDoorCo8
import Derived.Deep.RegionLaw
import Derived.Deep.RegionLawGrows
import Derived.Deep.AppendLies
import Derived.WalkKit
import Derived.WalkSpells
import Derived.WalkLawsBesides
import Derived.Deep.QuietTactic
import Derived.BigQuiet
import Derived.Handy
import Derived.Lib.Hide
namespace Go.Proofs.YtclpemmpckjemaaDoor
open Go.RowKit

theorem step_append_x {ops : Array Oper} {o : Oper} {a : Act} {K : Act → World → Prop} {Q : Exit → Act → World → Prop} {E : Prop} (W : World) (hgd : o.guard = none) (s x : Operand)
    (ho : o.op = .call { callee := .builtin .append, args := #[s, x], argTypes := #[26, 26] }) (base : Nat) (v : Value) (l : List UInt8) (hs : a.eval s = v)
    (hown : W.ownsRow base 5 1 v l.length (bytV l)) (u : Value) (m : List UInt8) (L B : Nat) (hx : a.eval x = u) (hr : RdB W L B u m) (hun : ∀ n c, u = .slice none n c → c = 0) (hl : l.length + m.length ≤ 140737488355328) (hbase : base ≤ W.heap.size)
    (h : ∀ v' w', w'.ownsRow base 5 1 v' (l ++ m).length (bytV (l ++ m)) → Below base W w' → K (a.put o.dst v') w') :
    if Region.wanted o (yielded ops a.tmps) = true then Oper.wp Tryd.prog o a W K Q else E := by
  have hw : Region.wanted o (yielded ops a.tmps) = true := by simp [Region.wanted, hgd]
  rw [if_pos hw]
  have hr0 := hr
  obtain ⟨A, c, rfl, _⟩ := hr
  obtain ⟨i0, hi, hz0, hz1, hz2⟩ := info_partsB infoB
  cases A with
  | none =>
    have hm0 : m = [] := by
      cases m with
      | nil => rfl
      | cons b t => obtain ⟨ad, h1, _⟩ := hr0.at (k := 0) rfl; cases h1
    subst hm0
    obtain rfl := hun _ _ rfl
    have hrun := run_append_owned_none (P := Tryd.prog) (w := W) base 26 o.type 5 i0 1 Tryd.underlying26 hi v _ _ hown
    unfold Oper.wp
    simp [execOp, ho, resolve, invoke, builtin, hs, hx, hrun, Result.andThen]
    exact h v W (by rw [List.append_nil]; exact hown) (Below.refl _ _)
  | some ad =>
    refine wp_append_own W s x 26 ho base 5 i0 (.int .u8 0) 1 1 Tryd.underlying26 hi hz0 hz1 hz2 rfl (by decide) v l.length (bytV l) hs hown ad m.length c (bytV m) hx (by rw [bytV_len]; omega)
      ?_ ?_ (by unfold maxLen; omega) (by omega) hbase ?_
    · intro j u hu
      unfold bytV at hu
      rw [List.getElem?_map, Option.map_eq_some_iff] at hu
      obtain ⟨b, hb, rfl⟩ := hu
      obtain ⟨ad2, h1, _, _, h4⟩ := hr0.at hb
      injection h1 with h1; subst h1; exact h4
    · intro u hu
      unfold bytV at hu
      rw [List.mem_map] at hu
      obtain ⟨b, _, rfl⟩ := hu
      rfl
    · intro v' w' h1 h2 _
      exact h v' w' (by rw [bytV_app, List.length_append]; exact h1) ((Below.refl _ _).grown h2 hbase fun k hk => (hown.lt k hk).1)
theorem step_append_xg {ops : Array Oper} {o : Oper} {a : Act} {K : Act → World → Prop} {Q : Exit → Act → World → Prop} {E : Prop} (W : World) (hgd : o.guard = none) (s x : Operand)
    (ho : o.op = .call { callee := .builtin .append, args := #[s, x], argTypes := #[26, 26] }) (base : Nat) (v : Value) (l : List UInt8) (hs : a.eval s = v)
    (hown : W.ownsRow base 5 1 v l.length (bytV l)) (u : Value) (m : List UInt8) (L B : Nat) (hx : a.eval x = u) (hr : RdB W L B u m) (hun : ∀ n c, u = .slice none n c → c = 0) (hl : l.length + m.length ≤ 140737488355328) (hbase : base ≤ W.heap.size)
    (h : ∀ v' w', w'.ownsRow base 5 1 v' (l ++ m).length (bytV (l ++ m)) → Below base W w' → W.grownBy w' v.ownBlock → K (a.put o.dst v') w') :
    if Region.wanted o (yielded ops a.tmps) = true then Oper.wp Tryd.prog o a W K Q else E := by
  have hw : Region.wanted o (yielded ops a.tmps) = true := by simp [Region.wanted, hgd]
  rw [if_pos hw]
  have hr0 := hr
  obtain ⟨A, c, rfl, _⟩ := hr
  obtain ⟨i0, hi, hz0, hz1, hz2⟩ := info_partsB infoB
  cases A with
  | none =>
    have hm0 : m = [] := by
      cases m with
      | nil => rfl
      | cons b t => obtain ⟨ad, h1, _⟩ := hr0.at (k := 0) rfl; cases h1
    subst hm0
    obtain rfl := hun _ _ rfl
    have hrun := run_append_owned_none (P := Tryd.prog) (w := W) base 26 o.type 5 i0 1 Tryd.underlying26 hi v _ _ hown
    unfold Oper.wp
    simp [execOp, ho, resolve, invoke, builtin, hs, hx, hrun, Result.andThen]
    exact h v W (by rw [List.append_nil]; exact hown) (Below.refl _ _) ⟨rfl, rfl, rfl, Nat.le_refl _, fun _ _ _ => rfl⟩
  | some ad =>
    refine wp_append_own W s x 26 ho base 5 i0 (.int .u8 0) 1 1 Tryd.underlying26 hi hz0 hz1 hz2 rfl (by decide) v l.length (bytV l) hs hown ad m.length c (bytV m) hx (by rw [bytV_len]; omega)
      ?_ ?_ (by unfold maxLen; omega) (by omega) hbase ?_
    · intro j u hu
      unfold bytV at hu
      rw [List.getElem?_map, Option.map_eq_some_iff] at hu
      obtain ⟨b, hb, rfl⟩ := hu
      obtain ⟨ad2, h1, _, _, h4⟩ := hr0.at hb
      injection h1 with h1; subst h1; exact h4
    · intro u hu
      unfold bytV at hu
      rw [List.mem_map] at hu
      obtain ⟨b, _, rfl⟩ := hu
      rfl
    · intro v' w' h1 h2 _
      exact h v' w' (by rw [bytV_app, List.length_append]; exact h1) ((Below.refl _ _).grown h2 hbase fun k hk => (hown.lt k hk).1) h2
theorem step_append_xl {ops : Array Oper} {o : Oper} {a : Act} {K : Act → World → Prop} {Q : Exit → Act → World → Prop} {E : Prop} (W : World) (hgd : o.guard = none) (s x : Operand)
    (ho : o.op = .call { callee := .builtin .append, args := #[s, x], argTypes := #[26, 26] }) (base : Nat) (v : Value) (l : List UInt8) (hs : a.eval s = v)
    (hown : W.ownsRow base 5 1 v l.length (bytV l)) (u : Value) (m : List UInt8) (L B : Nat) (hx : a.eval x = u) (hr : RdB W L B u m) (hm : 0 < m.length) (hl : l.length + m.length ≤ 140737488355328) (hbase : base ≤ W.heap.size)
    (h : ∀ v' w', w'.ownsRow base 5 1 v' (l ++ m).length (bytV (l ++ m)) → Below base W w' → W.grownBy w' v.ownBlock → (∀ g, v'.ownBlock = some g → v.ownBlock = some g ∨ g = W.heap.size) → K (a.put o.dst v') w') :
    if Region.wanted o (yielded ops a.tmps) = true then Oper.wp Tryd.prog o a W K Q else E := by
  have hw : Region.wanted o (yielded ops a.tmps) = true := by simp [Region.wanted, hgd]
  rw [if_pos hw]
  have hr0 := hr
  obtain ⟨A, c, rfl, _⟩ := hr
  obtain ⟨i0, hi, hz0, hz1, hz2⟩ := info_partsB infoB
  obtain ⟨ad, e1, _⟩ := hr0.at (k := 0) (List.getElem?_eq_getElem hm)
  subst e1
  refine wp_append_lies W s x 26 ho base 5 i0 (.int .u8 0) 1 1 Tryd.underlying26 hi hz0 hz1 hz2 rfl (by decide) v l.length (bytV l) hs hown ad m.length c (bytV m) hx (by rw [bytV_len]; omega)
    ?_ ?_ hm (by unfold maxLen; omega) (by omega) hbase W.heap.size rfl ?_
  · intro j u hu
    unfold bytV at hu
    rw [List.getElem?_map, Option.map_eq_some_iff] at hu
    obtain ⟨b, hb, rfl⟩ := hu
    obtain ⟨ad2, h1, _, _, h4⟩ := hr0.at hb
    injection h1 with h1; subst h1; exact h4
  · intro u hu
    unfold bytV at hu
    rw [List.mem_map] at hu
    obtain ⟨b, _, rfl⟩ := hu
    rfl
  · intro g cap w' h1 h2 h3 _
    exact h _ w' (by rw [bytV_app, List.length_append]; exact h1) ((Below.refl _ _).grown h2 hbase fun k hk => (hown.lt k hk).1) h2 (fun g' hg' => by
      have : g = g' := Option.some.inj hg'
      subst this
      exact h3)
/-- As Buf, and the row, if it is the call's own, lies below block N. -/
def BufN (w : World) (base N : Nat) (v : Value) (l : List UInt8) : Prop :=
  (w.ownsRow base 5 1 v l.length (bytV l) ∧ ∀ g, v.ownBlock = some g → g < N) ∨ ∃ A, v = .slice A l.length l.length ∧ RdB w 0 base v l
theorem Buf.to_n {w : World} {base : Nat} {v : Value} {l : List UInt8} (h : Buf w base v l) : BufN w base w.heap.size v l :=
  h.imp (fun h => ⟨h, fun g hg => (h.lt g hg).2⟩) id
theorem BufN.step {w w' : World} {base N : Nat} {v : Value} {l : List UInt8} (h : BufN w base N v l) (hb : Below w.heap.size w w') (hz : base ≤ w.heap.size) : BufN w' base N v l := by
  rcases h with ⟨h, h2⟩ | ⟨A, h1, h2⟩
  · exact .inl ⟨own_below h hb, h2⟩
  · exact .inr ⟨A, h1, h2.below (hb.mono hz)⟩
theorem step_append_buf {ops : Array Oper} {o : Oper} {a : Act} {K : Act → World → Prop} {Q : Exit → Act → World → Prop} {E : Prop} (W : World) (hgd : o.guard = none) (s x : Operand)
    (ho : o.op = .call { callee := .builtin .append, args := #[s, x], argTypes := #[26, 26] }) (base : Nat) (v : Value) (l : List UInt8) (hs : a.eval s = v)
    (N : Nat) (hB : BufN W base N v l) (u : Value) (m : List UInt8) (L B : Nat) (hx : a.eval x = u) (hr : RdB W L B u m) (hm : 0 < m.length) (hl : l.length + m.length ≤ 140737488355328) (hbase : base ≤ W.heap.size)
    (h : ∀ v' w', w'.ownsRow base 5 1 v' (l ++ m).length (bytV (l ++ m)) → Below base W w' → (∀ ad : Addr, N ≤ ad.block → ad.block < W.heap.size → w'.cell? ad = W.cell? ad) → (∀ g, v'.ownBlock = some g → g < N ∨ W.heap.size ≤ g) → K (a.put o.dst v') w') :
    if Region.wanted o (yielded ops a.tmps) = true then Oper.wp Tryd.prog o a W K Q else E := by
  rcases hB with ⟨hB, hBN⟩ | ⟨A, hv, hrv⟩
  · exact step_append_xl W hgd s x ho base v l hs hB u m L B hx hr hm hl hbase (fun v' w' h1 h2 h3 h6 => h v' w' h1 h2 (fun ad h4 h5 => h3.cell_far ad h5 fun e => by
      have := hBN _ e.symm
      omega) fun g hg => (h6 g hg).imp (fun h7 => hBN g h7) fun h7 => by omega)
  · have hr0 := hr
    obtain ⟨A2, c2, rfl, _, _, _⟩ := hr
    obtain ⟨ad, e1, _⟩ := hr0.at (k := 0) (List.getElem?_eq_getElem hm)
    subst e1
    obtain ⟨i0, hi, hz0, hz1, hz2⟩ := info_partsB infoB
    have hnone : A = none → l.length = 0 ∧ l.length = 0 := by
      intro e
      subst hv e
      cases l with
      | nil => exact ⟨rfl, rfl⟩
      | cons b t => obtain ⟨ad3, h1, _⟩ := hrv.at (k := 0) rfl; cases h1
    refine step_append_grows hgd s x 26 ho 5 i0 (.int .u8 0) 1 1 Tryd.underlying26 hi hz0 hz1 hz2 rfl (by decide) A l.length l.length (bytV l) (hs.trans hv) hnone (by rw [bytV_len]; omega) ?_
      ad m.length c2 (bytV m) hx (by rw [bytV_len]; omega) ?_ ?_ (by omega) (by unfold maxLen; omega) (by omega) ?_
    · intro b hb j y hy
      subst hv hb
      unfold bytV at hy
      rw [List.getElem?_map, Option.map_eq_some_iff] at hy
      obtain ⟨q, hq, rfl⟩ := hy
      obtain ⟨ad3, h1, _, _, h4⟩ := hrv.at hq
      injection h1 with h1; subst h1; exact h4
    · intro j y hy
      unfold bytV at hy
      rw [List.getElem?_map, Option.map_eq_some_iff] at hy
      obtain ⟨q, hq, rfl⟩ := hy
      obtain ⟨ad3, h1, _, _, h4⟩ := hr0.at hq
      injection h1 with h1; subst h1; exact h4
    · intro y hy
      unfold bytV at hy
      rw [List.mem_map] at hy
      obtain ⟨b, _, rfl⟩ := hy
      rfl
    · intro v' w' h1 h2
      exact h v' w' (by rw [bytV_app, List.length_append]; exact ownsRow_low h1 hbase) ((Below.refl _ _).grown h2 hbase fun k hk => by cases hk) (fun ad _ h5 => h2.cell_far ad h5 (by intro e; cases e)) fun g hg => .inr (by
        have := (h1.lt g hg).1
        exact this)
end Go.Proofs.YtclpemmpckjemaaDoor
