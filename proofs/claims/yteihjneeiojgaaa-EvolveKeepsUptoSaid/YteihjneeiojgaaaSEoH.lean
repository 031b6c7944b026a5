import Derived.Test.YteihjneeiojgaaaSEoG
import Derived.Shelf.Spec.SlicesInsert
import Derived.Lib.AppendZeros
import Derived.IntWalk
import Derived.WalkKit
import Derived.WalkSpells
import Derived.WalkLawsBesides
import Derived.Deep.QuietTactic
import Derived.BigQuiet
import Derived.Handy
import Derived.Lib.Hide
/-
  slices.Delete of one column. Conditions: the row is the caller's own.
-/
namespace Go.Proofs.Yteihjneeiojgaaa
set_option maxRecDepth 100000
set_option linter.unusedVariables false
set_option linter.unusedSimpArgs false
open Go.RowKit

abbrev fmC (l : List Cl) : List Value := l.flatMap fC
theorem fC_one (l : List Cl) : ∀ u ∈ fmC l, u.oneCell' = true := fun u hu => by obtain ⟨z, _, hz⟩ := List.mem_flatMap.1 hu; simp [fC] at hz; rcases hz with rfl | rfl | rfl <;> rfl
theorem fmC_append (a b : List Cl) : fmC (a ++ b) = fmC a ++ fmC b := List.flatMap_append
theorem fC_take (l : List Cl) : ∀ i, (fmC l).take (i * 3) = fmC (l.take i) := by
  induction l with
  | nil => intro i; simp [fmC]
  | cons p l ih =>
    intro i
    cases i with
    | zero => simp [fmC]
    | succ i =>
      have := ih i
      rw [show (i + 1) * 3 = i * 3 + 1 + 1 + 1 by omega, List.take_succ_cons]
      simpa [fmC, fC] using this
theorem fC_drop (l : List Cl) : ∀ i, (fmC l).drop (i * 3) = fmC (l.drop i) := by
  induction l with
  | nil => intro i; simp [fmC]
  | cons p l ih =>
    intro i
    cases i with
    | zero => simp [fmC]
    | succ i =>
      have := ih i
      rw [show (i + 1) * 3 = i * 3 + 1 + 1 + 1 by omega, List.drop_succ_cons]
      simpa [fmC, fC] using this
theorem own_rowB {w : World} {base : Nat} {e : TypeId} {sz n g c : Nat} {xs : List Value} (h : w.ownsRow base e sz (.slice (some ⟨g, 0, none⟩) n c) n xs) :
    ∃ cur : Array Value, base ≤ g ∧ w.heap[g]? = some (.cells cur e (0, 0)) ∧ n ≤ c ∧ c ≤ maxLen ∧ cur.size = c * sz ∧ cur.toList.take (n * sz) = xs := by
  rcases h.2 with ⟨h0, _⟩ | ⟨g', cap, cur, he, hb, hh, hn, hc, hs, ht⟩
  · cases h0
  · injection he with e1 e2 e3
    injection e1 with e1
    injection e1 with e1 _ _
    subst e1 e3
    exact ⟨cur, hb, hh, hn, hc, hs, ht⟩
theorem own_of_rowB {w : World} {base : Nat} {e : TypeId} {sz n g c : Nat} {xs : List Value} {cur : Array Value} (hb : base ≤ g) (hh : w.heap[g]? = some (.cells cur e (0, 0))) (hn : n ≤ c) (hc : c ≤ maxLen) (hs : cur.size = c * sz) (ht : cur.toList.take (n * sz) = xs) :
    w.ownsRow base e sz (.slice (some ⟨g, 0, none⟩) n c) n xs := by
  refine ⟨?_, .inr ⟨g, c, cur, rfl, hb, hh, hn, hc, hs, ht⟩⟩
  rw [← ht, List.length_take, Array.length_toList, hs]
  exact Nat.min_eq_left (Nat.mul_le_mul_right _ hn)
theorem grown_setRowB {w w' : World} {g : Nat} (h : w.grownBy w' (some g)) (cs : Array Value) : w.grownBy (w'.setRow g cs) (some g) :=
  ⟨h.os, h.tape, h.output, by rw [setRow_size]; exact h.size, fun k hk hne => by rw [setRow_other w' g k cs (by rintro rfl; exact hne rfl)]; exact h.block k hk hne⟩
theorem step_append_eq {P : Program} {ops : Array Oper} {o : Oper} {a : Act} {w : World} {K : Act → World → Prop} {Q : Exit → Act → World → Prop} {E : Prop}
    (hg : o.guard = none) (s x : Operand) (t tn : TypeId) (hop : o.op = Op.call { callee := Callee.builtin Builtin.append, args := #[s, x], argTypes := #[t, tn] })
    (v u : Value) (hs : a.eval s = v) (hx : a.eval x = u) {v' : Value} {w' : World} (hr : (Builtin.append_ #[t, tn] o.type #[v, u]).run P w = .ok v' w') (hK : K (a.put o.dst v') w') :
    if Region.wanted o (yielded ops a.tmps) = true then Oper.wp P o a w K Q else E := by
  have hw : Region.wanted o (yielded ops a.tmps) = true := by simp [Region.wanted, hg]
  rw [if_pos hw]
  unfold Oper.wp
  simp [execOp, hop, resolve, invoke, builtin, hs, hx, hr, Result.andThen]
  exact hK
theorem run_clear_col (w : World) (g o c : Nat) (cur : Array Value) (t : TypeId) (hg : w.heap[g]? = some (.cells cur t (0, 0))) (hfit : o + 3 ≤ cur.size) (ty : TypeId) :
    (Builtin.clear_ #[22] ty #[.slice (some ⟨g, o, none⟩) 1 c]).run Try.prog w = .ok (.tuple #[]) (w.setRow g (cur.toList.take o ++ [Value.string ⟨#[]⟩, Value.int .i64 0, Value.bool false] ++ cur.toList.drop (o + 3)).toArray) := by
  have hst := run_storeCells_at Try.prog g o t [Value.string ⟨#[]⟩, Value.int .i64 0, Value.bool false] 0 cur w hg (by simpa using hfit) (fun v hv => by simp at hv; rcases hv with rfl | rfl | rfl <;> rfl)
  simp only [Nat.add_zero] at hst
  have hz : (Builtin.zeroCells (Value.agg #[.string ⟨#[]⟩, .int .i64 0, .bool false]).cells 1).toList = [Value.string ⟨#[]⟩, Value.int .i64 0, Value.bool false] := by
    simp [Builtin.zeroCells, Value.cells]
    rfl
  obtain ⟨i0, hi, hz0, hz1, hz2⟩ := info_parts infoCl
  simp [Builtin.clear_, run_underlying Try.underlying22, zeroValue, typeInfo, hi, hz0, hz, hst]
def RetRowC (w : World) (base : Nat) (v : Value) (l : List Cl) (e : Ending) (w' : World) : Prop :=
  ∃ v', e = .returned v' ∧ w'.ownsRow base 36 3 v' l.length (fmC l) ∧ w.grownBy w' v.ownBlock ∧ ∀ g, v'.ownBlock = some g → v.ownBlock = some g ∨ w.heap.size ≤ g
set_option maxRecDepth 100000 in
set_option maxHeartbeats 3200000 in
theorem pDelC_any (v : Value) (l : List Cl) (i : Nat) (w : World) (base : Nat) (hown : w.ownsRow base 36 3 v l.length (fmC l)) (hi : i < l.length) (hlen : l.length ≤ 1000000) :
    Calls Try.prog 36 #[v, .int .i64 i, .int .i64 (i + 1 : Nat)] w (RetRowC w base v (l.take i ++ l.drop (i + 1))) := by
  rcases own_row hown with ⟨_, h0⟩ | ⟨g, c, rfl, hbg, hg, hcell0⟩
  · omega
  have hcell : ∀ j u, (fmC l)[j]? = some u → w.cell? ⟨g, j, none⟩ = some u := fun j u hu => by have := hcell0 j u hu; rwa [addX] at this
  clear hcell0
  obtain ⟨cur, _, hh, hnc, hcm, hcs, hct⟩ := own_rowB hown
  have hc63 : c ≤ 9223372036854775807 := by unfold maxLen at hcm; omega
  obtain ⟨n, hm⟩ : ∃ n, l.length = n := ⟨_, rfl⟩
  rw [hm] at hi hlen hnc
  have hnl : (fmC (l.drop (i + 1))).length = (n - (i + 1)) * 3 := by rw [fm_len fC_len, List.length_drop]; omega
  obtain ⟨A, hA, hsrc⟩ : ∃ A : Addr, (if c = i + 1 then some (⟨g, 0, none⟩ : Addr) else some ⟨g, (i + 1) * 3, none⟩) = some A ∧ Hid (∀ t u, (fmC (l.drop (i + 1)))[t]? = some u → w.drew.cell? (A.add t) = some u) := by
    by_cases h : c = i + 1
    · refine ⟨⟨g, 0, none⟩, by simp [h], fun t u hu => ?_⟩
      have h0 : (fmC (l.drop (i + 1))).length = 0 := by rw [hnl]; omega
      rw [List.length_eq_zero_iff.1 h0] at hu
      simp at hu
    · refine ⟨⟨g, (i + 1) * 3, none⟩, by simp [h], fun t u hu => ?_⟩
      rw [← fC_drop, List.getElem?_drop] at hu
      rw [Addr.add_lit]
      exact hcell _ _ hu
  obtain ⟨i0, hi0, hz0, hz1, hz2⟩ := info_parts infoCl
  have hfit : i * 3 + (n - (i + 1)) * 3 ≤ cur.size := by rw [hcs]; omega
  have hrun : ∀ ty, (Builtin.append_ #[22, 22] ty #[.slice (some ⟨g, 0, none⟩) i c, .slice (some A) (n - (i + 1)) (c - (i + 1))]).run Try.prog w.drew = _ := fun ty =>
    run_append_room (P := Try.prog) w.drew 22 ty 36 i0 Try.underlying22 hi0 g i c cur hh A (n - (i + 1)) (c - (i + 1)) (fmC (l.drop (i + 1))) (by rw [hz1]; exact hnl) hsrc.out (fC_one _) (by omega) (by rw [hz1, hnl]; exact hfit)
  rw [hz1, hnl] at hrun
  obtain ⟨C1, hC1⟩ : ∃ C1 : Array Value, C1 = (cur.toList.take (i * 3) ++ fmC (l.drop (i + 1)) ++ cur.toList.drop (i * 3 + (n - (i + 1)) * 3)).toArray := ⟨_, rfl⟩
  rw [← hC1] at hrun
  have hC1s : C1.size = c * 3 := by
    rw [hC1]
    simp only [List.size_toArray, List.length_append, List.length_take, List.length_drop, Array.length_toList, hnl]
    omega
  have hC1t : C1.toList.take ((i + (n - (i + 1))) * 3) = fmC (l.take i ++ l.drop (i + 1)) := by
    rw [hC1, List.take_append_of_le_length (by rw [List.length_append, List.length_take, Array.length_toList, hnl]; omega), fmC_append, ← fC_take, ← hct, List.take_take, Nat.min_eq_left (by omega)]
    exact List.take_of_length_le (by rw [List.length_append, List.length_take, Array.length_toList, hnl]; omega)
  obtain ⟨W1, hW1⟩ : ∃ W1, W1 = w.drew.setRow g C1 := ⟨_, rfl⟩
  have hh1 : W1.heap[g]? = some (.cells C1 36 (0, 0)) := by rw [hW1]; exact setRow_heap _ g cur C1 _ _ hh
  have G1 : w.grownBy W1 (some g) := by rw [hW1]; exact grown_setRowB (show w.grownBy w.drew (some g) from ⟨rfl, rfl, rfl, Nat.le_refl _, fun _ _ _ => rfl⟩) C1
  have hrunN := Lib.hid hrun
  rw [← hW1] at hrunN
  have hcl := fun ty => run_clear_col W1 g ((i + (n - (i + 1))) * 3) (c - (i + (n - (i + 1)))) C1 _ hh1 (by rw [hC1s]; omega) ty
  obtain ⟨C2, hC2⟩ : ∃ C2 : Array Value, C2 = (C1.toList.take ((i + (n - (i + 1))) * 3) ++ [Value.string ⟨#[]⟩, Value.int .i64 0, Value.bool false] ++ C1.toList.drop ((i + (n - (i + 1))) * 3 + 3)).toArray := ⟨_, rfl⟩
  rw [← hC2] at hcl
  have hC2s : C2.size = c * 3 := by
    rw [hC2]
    simp only [List.size_toArray, List.length_append, List.length_take, List.length_drop, Array.length_toList, hC1s, List.length_cons, List.length_nil]
    omega
  have hC2t : C2.toList.take ((i + (n - (i + 1))) * 3) = fmC (l.take i ++ l.drop (i + 1)) := by
    rw [hC2, List.append_assoc, List.take_left' (by rw [List.length_take, Array.length_toList, hC1s]; omega)]
    exact hC1t
  have hln : (l.take i ++ l.drop (i + 1)).length = i + (n - (i + 1)) := by rw [List.length_append, List.length_take, List.length_drop]; omega
  have hfin : (W1.setRow g C2).ownsRow base 36 3 (.slice (some ⟨g, 0, none⟩) (i + (n - (i + 1))) c) (l.take i ++ l.drop (i + 1)).length (fmC (l.take i ++ l.drop (i + 1))) := by
    rw [hln]
    exact own_of_rowB hbg (setRow_heap W1 g C1 C2 _ _ hh1) (by omega) hcm hC2s hC2t
  have HF := Lib.hid hfin
  have HG := Lib.hid (grown_setRowB G1 C2)
  rw [hm]
  clear hfin G1 hC2t hC2s hC2 hC1t hC1s hC1 hrun hW1 hh1 hfit hct hcs hh hcell hown hnl
  have HM := Lib.hid hm
  clear hm
  have e3 : n - (i + (n - (i + 1))) = 1 := by omega
  have e4 : i ≤ n := by omega
  have mixed : Try.prog.follows .mixedOrders = true := by kernel_rfl
  have j0 : (0 : Int) ≤ (i : Int) + 1 := by omega
  have j1 : (i : Int) + 1 ≤ (n : Int) := by omega
  have j2 : (0 : Int) ≤ (i : Int) := by omega
  have j3 : (i : Int) ≤ (n : Int) := by omega
  have e5 : i + 1 ≤ n := by omega
  have e6 : ¬ (i = i + 1) := by omega
  have e7 : i + 1 ≤ c := by omega
  have e8 : i ≤ c := by omega
  have e9 : i + (n - (i + 1)) ≤ n := by omega
  go_enter Try.func36, Try.ntmps36
  go_wp2
  go_region_law_o (refine step_append_eq rfl (.tmp 22) (.tmp 25) 22 22 rfl (.slice (some ⟨g, 0, none⟩) i c) (.slice (some A) (n - (i + 1)) (c - (i + 1))) (by simp [Act.eval, Act.put]) (by simp [Act.eval, Act.put]) (hrunN.out _) ?_)
  go_wp2
  go_ret
  exact ⟨_, rfl, HF.out, HG.out, fun g h => .inl h⟩
end Go.Proofs.Yteihjneeiojgaaa
