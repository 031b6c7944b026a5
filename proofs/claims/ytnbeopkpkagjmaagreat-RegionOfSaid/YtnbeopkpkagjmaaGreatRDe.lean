import Derived.Test.YtnbeopkpkagjmaaGreatRG
import Derived.Shelf.Spec.SlicesInsert
import Derived.Lib.AppendZeros
import Derived.IntWalk
import Derived.WalkKit
import Derived.WalkSpells
import Derived.WalkLawsBesides
import Derived.Deep.QuietTactic
import Derived.BigQuiet
import Derived.Handy
import Derived.Lib.Hide
import Derived.Lib.AppendZerosOnto
import Derived.Laws.NewBlocks
/-
  slices.Delete of one period. Conditions: the row is the caller's own.
-/
namespace Go.Proofs.YtnbeopkpkagjmaaGreat
set_option maxRecDepth 100000
set_option linter.unusedVariables false
set_option linter.unusedSimpArgs false
open Go.RowKit

theorem step_append_eq {P : Program} {ops : Array Oper} {o : Oper} {a : Act} {w : World} {K : Act → World → Prop} {Q : Exit → Act → World → Prop} {E : Prop}
    (hg : o.guard = none) (s x : Operand) (t tn : TypeId) (hop : o.op = Op.call { callee := Callee.builtin Builtin.append, args := #[s, x], argTypes := #[t, tn] })
    (v u : Value) (hs : a.eval s = v) (hx : a.eval x = u) {v' : Value} {w' : World} (hr : (Builtin.append_ #[t, tn] o.type #[v, u]).run P w = .ok v' w') (hK : K (a.put o.dst v') w') :
    if Region.wanted o (yielded ops a.tmps) = true then Oper.wp P o a w K Q else E := by
  have hw : Region.wanted o (yielded ops a.tmps) = true := by simp [Region.wanted, hg]
  rw [if_pos hw]
  unfold Oper.wp
  simp [execOp, hop, resolve, invoke, builtin, hs, hx, hr, Result.andThen]
  exact hK
theorem run_clear_two (w : World) (g o c : Nat) (cur : Array Value) (t : TypeId) (hg : w.heap[g]? = some (.cells cur t (0, 0))) (hfit : o + 2 ≤ cur.size) (ty : TypeId) :
    (Builtin.clear_ #[27] ty #[.slice (some ⟨g, o, none⟩) 1 c]).run Tryz.prog w = .ok (.tuple #[]) (w.setRow g (cur.toList.take o ++ [Value.int .i64 0, Value.int .i64 0] ++ cur.toList.drop (o + 2)).toArray) := by
  have hst := run_storeCells_at Tryz.prog g o t [Value.int .i64 0, Value.int .i64 0] 0 cur w hg (by simpa using hfit) (fun v hv => by simp at hv; rcases hv with rfl | rfl <;> rfl)
  simp only [Nat.add_zero] at hst
  have hz : (Builtin.zeroCells (Value.agg #[.int .i64 0, .int .i64 0]).cells 1).toList = [Value.int .i64 0, Value.int .i64 0] := by
    simp [Builtin.zeroCells, Value.cells]
    rfl
  obtain ⟨i0, hi, hz0, hz1, hz2⟩ := info_parts infoPer
  simp [Builtin.clear_, run_underlying Tryz.underlying27, zeroValue, typeInfo, hi, hz0, hz, hst]
/-- What is left behind a call that changes one row of one's own. -/
def RetRow (w : World) (base : Nat) (v : Value) (l : List (Int × Int)) (e : Ending) (w' : World) : Prop :=
  ∃ v', e = .returned v' ∧ w'.ownsRow base 33 2 v' l.length (flatP l) ∧ w.grownBy w' v.ownBlock ∧ ∀ g, v'.ownBlock = some g → v.ownBlock = some g ∨ w.heap.size ≤ g
theorem flatP_take (l : List (Int × Int)) : ∀ i, (flatP l).take (i * 2) = flatP (l.take i) := by
  induction l with
  | nil => intro i; simp [flatP]
  | cons p l ih =>
    intro i
    cases i with
    | zero => simp [flatP]
    | succ i =>
      have := ih i
      rw [show (i + 1) * 2 = i * 2 + 1 + 1 by omega, List.take_succ_cons]
      simpa [flatP] using this
theorem flatP_drop (l : List (Int × Int)) : ∀ i, (flatP l).drop (i * 2) = flatP (l.drop i) := by
  induction l with
  | nil => intro i; simp [flatP]
  | cons p l ih =>
    intro i
    cases i with
    | zero => simp [flatP]
    | succ i =>
      have := ih i
      rw [show (i + 1) * 2 = i * 2 + 1 + 1 by omega, List.drop_succ_cons]
      simpa [flatP] using this
set_option maxRecDepth 100000 in
set_option maxHeartbeats 3200000 in
theorem pDel_any (v : Value) (l : List (Int × Int)) (i : Nat) (w : World) (base : Nat) (hown : w.ownsRow base 33 2 v l.length (flatP l)) (hi : i < l.length) (hlen : l.length ≤ 1000000) :
    Calls Tryz.prog 93 #[v, .int .i64 i, .int .i64 (i + 1 : Nat)] w (RetRow w base v (l.take i ++ l.drop (i + 1))) := by
  rcases own_get hown with ⟨_, h0⟩ | ⟨g, c, rfl, hbg, hg, hnc, hcell⟩
  · omega
  obtain ⟨cur, _, hh, _, hcm, hcs, hct⟩ := own_row hown
  have hc63 : c ≤ 9223372036854775807 := by unfold maxLen at hcm; omega
  obtain ⟨n, hm⟩ : ∃ n, l.length = n := ⟨_, rfl⟩
  rw [hm] at hi hlen hnc
  have hnl : (flatP (l.drop (i + 1))).length = (n - (i + 1)) * 2 := by rw [flatP_length, List.length_drop]; omega
  obtain ⟨A, hA, hsrc⟩ : ∃ A : Addr, (if c = i + 1 then some (⟨g, 0, none⟩ : Addr) else some ⟨g, (i + 1) * 2, none⟩) = some A ∧ Hid (∀ t u, (flatP (l.drop (i + 1)))[t]? = some u → w.drew.cell? (A.add t) = some u) := by
    by_cases h : c = i + 1
    · refine ⟨⟨g, 0, none⟩, by simp [h], fun t u hu => ?_⟩
      have h0 : (flatP (l.drop (i + 1))).length = 0 := by rw [hnl]; omega
      rw [List.length_eq_zero_iff.1 h0] at hu
      simp at hu
    · refine ⟨⟨g, (i + 1) * 2, none⟩, by simp [h], fun t u hu => ?_⟩
      rw [← flatP_drop, List.getElem?_drop] at hu
      rw [Addr.add_lit]
      exact hcell _ _ hu
  obtain ⟨i0, hi0, hz0, hz1, hz2⟩ := info_parts infoPer
  have hfit : i * 2 + (n - (i + 1)) * 2 ≤ cur.size := by rw [hcs]; omega
  have hrun : ∀ ty, (Builtin.append_ #[27, 27] ty #[.slice (some ⟨g, 0, none⟩) i c, .slice (some A) (n - (i + 1)) (c - (i + 1))]).run Tryz.prog w.drew = _ := fun ty =>
    run_append_room (P := Tryz.prog) w.drew 27 ty 33 i0 Tryz.underlying27 hi0 g i c cur hh A (n - (i + 1)) (c - (i + 1)) (flatP (l.drop (i + 1))) (by rw [hz1]; exact hnl) hsrc.out (flatP_one _) (by omega) (by rw [hz1, hnl]; exact hfit)
  rw [hz1, hnl] at hrun
  obtain ⟨C1, hC1⟩ : ∃ C1 : Array Value, C1 = (cur.toList.take (i * 2) ++ flatP (l.drop (i + 1)) ++ cur.toList.drop (i * 2 + (n - (i + 1)) * 2)).toArray := ⟨_, rfl⟩
  rw [← hC1] at hrun
  have hC1s : C1.size = c * 2 := by
    rw [hC1]
    simp only [List.size_toArray, List.length_append, List.length_take, List.length_drop, Array.length_toList, hnl]
    omega
  have hC1t : C1.toList.take ((i + (n - (i + 1))) * 2) = flatP (l.take i ++ l.drop (i + 1)) := by
    rw [hC1, List.take_append_of_le_length (by rw [List.length_append, List.length_take, Array.length_toList, hnl]; omega), flatP_append, ← flatP_take, ← hct, List.take_take, Nat.min_eq_left (by omega)]
    exact List.take_of_length_le (by rw [List.length_append, List.length_take, Array.length_toList, hnl]; omega)
  obtain ⟨W1, hW1⟩ : ∃ W1, W1 = w.drew.setRow g C1 := ⟨_, rfl⟩
  have hh1 : W1.heap[g]? = some (.cells C1 33 (0, 0)) := by rw [hW1]; exact setRow_heap _ g cur C1 _ _ hh
  have G1 : w.grownBy W1 (some g) := by rw [hW1]; exact grown_setRow (show w.grownBy w.drew (some g) from ⟨rfl, rfl, rfl, Nat.le_refl _, fun _ _ _ => rfl⟩) C1
  have hrunN := Lib.hid hrun
  rw [← hW1] at hrunN
  have hcl := fun ty => run_clear_two W1 g ((i + (n - (i + 1))) * 2) (c - (i + (n - (i + 1)))) C1 _ hh1 (by rw [hC1s]; omega) ty
  obtain ⟨C2, hC2⟩ : ∃ C2 : Array Value, C2 = (C1.toList.take ((i + (n - (i + 1))) * 2) ++ [Value.int .i64 0, Value.int .i64 0] ++ C1.toList.drop ((i + (n - (i + 1))) * 2 + 2)).toArray := ⟨_, rfl⟩
  rw [← hC2] at hcl
  have hC2s : C2.size = c * 2 := by
    rw [hC2]
    simp only [List.size_toArray, List.length_append, List.length_take, List.length_drop, Array.length_toList, hC1s, List.length_cons, List.length_nil]
    omega
  have hC2t : C2.toList.take ((i + (n - (i + 1))) * 2) = flatP (l.take i ++ l.drop (i + 1)) := by
    rw [hC2, List.append_assoc, List.take_left' (by rw [List.length_take, Array.length_toList, hC1s]; omega)]
    exact hC1t
  have hln : (l.take i ++ l.drop (i + 1)).length = i + (n - (i + 1)) := by rw [List.length_append, List.length_take, List.length_drop]; omega
  have hfin : (W1.setRow g C2).ownsRow base 33 2 (.slice (some ⟨g, 0, none⟩) (i + (n - (i + 1))) c) (l.take i ++ l.drop (i + 1)).length (flatP (l.take i ++ l.drop (i + 1))) := by
    rw [hln]
    exact own_of_row hbg (setRow_heap W1 g C1 C2 _ _ hh1) (by omega) hcm hC2s hC2t
  have HF := Lib.hid hfin
  have HG := Lib.hid (grown_setRow G1 C2)
  rw [hm]
  clear hfin G1 hC2t hC2s hC2 hC1t hC1s hC1 hrun hW1 hh1 hfit hct hcs hh hcell hown hnl
  have HM := Lib.hid hm
  clear hm
  have e3 : n - (i + (n - (i + 1))) = 1 := by omega
  have e4 : i ≤ n := by omega
  have mixed : Tryz.prog.follows .mixedOrders = true := by kernel_rfl
  have j0 : (0 : Int) ≤ (i : Int) + 1 := by omega
  have j1 : (i : Int) + 1 ≤ (n : Int) := by omega
  have j2 : (0 : Int) ≤ (i : Int) := by omega
  have j3 : (i : Int) ≤ (n : Int) := by omega
  have e5 : i + 1 ≤ n := by omega
  have e6 : ¬ (i = i + 1) := by omega
  have e7 : i + 1 ≤ c := by omega
  have e8 : i ≤ c := by omega
  have e9 : i + (n - (i + 1)) ≤ n := by omega
  go_enter Tryz.func93, Tryz.ntmps93
  go_wp2
  go_region_law_o (refine step_append_eq rfl (.tmp 22) (.tmp 25) 27 27 rfl (.slice (some ⟨g, 0, none⟩) i c) (.slice (some A) (n - (i + 1)) (c - (i + 1))) (by simp [Act.eval, Act.put]) (by simp [Act.eval, Act.put]) (hrunN.out _) ?_)
  go_wp2
  go_ret
  exact ⟨_, rfl, HF.out, HG.out, fun g h => .inl h⟩
end Go.Proofs.YtnbeopkpkagjmaaGreat
/-
  slices.Insert of one period. Conditions: the row is the caller's own; the period lies in a block of its own; at most a million periods.
-/
namespace Go.Proofs.YtnbeopkpkagjmaaGreat
set_option maxRecDepth 100000
set_option linter.unusedVariables false
set_option linter.unusedSimpArgs false
open Go.RowKit

theorem flatP_cons (p : Int × Int) (l : List (Int × Int)) : flatP (p :: l) = [Value.int .i64 p.1, Value.int .i64 p.2] ++ flatP l := by simp [flatP]
theorem take3 {α : Type} (a b c : List α) {n m k : Nat} (ha : a.length = n) (hb : b.length = m) (hk : k ≤ n + m) : (a ++ b ++ c).take k = (a ++ b).take k := List.take_append_of_le_length (by rw [List.length_append]; omega)
theorem overlaps_no (w : World) (vb g o n c lb cb : Nat) (a b : Int) (cur : Array Value) (ho : Own w vb 33 #[.int .i64 a, .int .i64 b]) (hh : w.heap[g]? = some (.cells cur 33 (0, 0))) (hne : vb ≠ g) (hk : cur.size ≠ 0) :
    (callFunc 113 #[.slice (some ⟨vb, 0, none⟩) n c, .slice (some ⟨g, o, none⟩) lb cb]).run Tryz.prog w = .ok (.value (.bool false)) w := by
  rw [run_callFunc_extern Tryz.func113 (by kernel_rfl) (by kernel_rfl) (by kernel_rfl) (e := Extern.SlicesOverlaps.overlaps #[27, 27] #[4]) (by kernel_rfl),
    Lib.run_overlaps_apart w 27 4 33 Tryz.underlying27 2 Tryz.sizeOf33 ⟨vb, 0, none⟩ ⟨g, o, none⟩ n c lb cb hne 33 33 2 cur.size (by unfold Own at ho; simp [World.shape?, ho]) (by simp [World.shape?, hh]) hk (ho.free 0) (ho.free 2)]
  rfl
set_option maxRecDepth 100000 in
set_option maxHeartbeats 3200000 in
theorem pIns_end (v : Value) (l : List (Int × Int)) (p : Int × Int) (vb : Nat) (w : World) (base : Nat) (hown : w.ownsRow base 33 2 v l.length (flatP l)) (ho : Own w vb 33 #[.int .i64 p.1, .int .i64 p.2]) (hbase : base ≤ w.heap.size) (hlen : l.length ≤ 1000000) :
    Calls Tryz.prog 92 #[v, .int .i64 (l.length : Nat), .slice (some ⟨vb, 0, none⟩) 1 1] w (RetRow w base v (l ++ [p])) := by
  obtain ⟨i0, hi0, hz0, hz1, hz2⟩ := info_parts infoPer
  obtain ⟨a, b⟩ := p
  have HN := Lib.hid (World.news_of_block ho)
  have HO := Lib.hid hown
  have HF : Hid (flatP (l ++ [(a, b)]) = flatP l ++ [.int .i64 a, .int .i64 b]) := Lib.hid (flatP_snoc l (a, b))
  have hvl : (l ++ [(a, b)]).length = l.length + 1 := by simp
  have j1 : (0 : Int) ≤ (l.length : Int) := by omega
  obtain ⟨A, c, rfl⟩ : ∃ A c, v = .slice A l.length c := by
    rcases own_get hown with ⟨rfl, h0⟩ | ⟨g, c, rfl, _⟩
    · exact ⟨none, 0, by rw [h0]⟩
    · exact ⟨_, c, rfl⟩
  have hc : l.length ≤ c ∧ (A = none → c = 0 ∧ l.length = 0) := by
    rcases own_get hown with ⟨he, h0⟩ | ⟨g, c', he, _, _, hn, _⟩
    · injection he with e1 e2 e3; exact ⟨by omega, fun _ => ⟨e3, h0⟩⟩
    · injection he with e1 e2 e3; subst e3; exact ⟨hn, fun h => by rw [h] at e1; cases e1⟩
  obtain ⟨hc1, hc2⟩ := hc
  clear hown ho
  unfold RetRow
  rw [hvl]
  generalize hn : l.length = n at *
  clear hn
  go_enter Tryz.func92, Tryz.ntmps92
  cases A with
  | none =>
    obtain ⟨rfl, rfl⟩ := hc2 rfl
    clear hc1 hc2
    go_wp2_with (at_builtin; refine wpList_append_lies _ rfl _ _ 27 rfl base 33 i0 (.agg #[.int .i64 0, .int .i64 0]) 2 16 Tryz.underlying27 hi0 hz0 hz1 hz2 rfl (by decide) _ 0 (flatP l) rfl HO.out ⟨vb, 0, none⟩ 1 1 [.int .i64 a, .int .i64 b] rfl rfl HN.out (fun u hu => by simp at hu; rcases hu with rfl | rfl <;> rfl) (by decide) (by unfold maxLen; omega) (by omega) hbase w.heap.size rfl ?_; intro g2 cap w2 h1 h2 h3 h4)
    go_ret
    exact ⟨_, rfl, by rw [HF.out]; exact h1, h2, fun j hj => by
      have e : g2 = j := by simpa [Value.ownBlock] using hj
      subst e
      rcases h3 with h3 | h3
      · exact .inl h3
      · exact .inr (by omega)⟩
  | some A =>
    clear hc2
    obtain ⟨gb, go, gs⟩ := A
    go_wp2_with (at_builtin; refine wpList_append_lies _ rfl _ _ 27 rfl base 33 i0 (.agg #[.int .i64 0, .int .i64 0]) 2 16 Tryz.underlying27 hi0 hz0 hz1 hz2 rfl (by decide) _ n (flatP l) rfl HO.out ⟨vb, 0, none⟩ 1 1 [.int .i64 a, .int .i64 b] rfl rfl HN.out (fun u hu => by simp at hu; rcases hu with rfl | rfl <;> rfl) (by decide) (by unfold maxLen; omega) (by omega) hbase w.heap.size rfl ?_; intro g2 cap w2 h1 h2 h3 h4)
    all_goals
      go_ret
      exact ⟨_, rfl, by rw [HF.out]; exact h1, h2, fun j hj => by
        have e : g2 = j := by simpa [Value.ownBlock] using hj
        subst e
        rcases h3 with h3 | h3
        · exact .inl h3
        · exact .inr (by omega)⟩
set_option maxRecDepth 100000 in
set_option maxHeartbeats 6400000 in
theorem pIns_shift (g c n i vb : Nat) (l : List (Int × Int)) (p : Int × Int) (w : World) (base : Nat) (hown : w.ownsRow base 33 2 (.slice (some ⟨g, 0, none⟩) n c) n (flatP l)) (hln : l.length = n) (ho : Own w vb 33 #[.int .i64 p.1, .int .i64 p.2]) (hne : vb ≠ g) (hi : i < n) (hroom : n + 1 ≤ c) (hlen : n ≤ 1000000) :
    Calls Tryz.prog 92 #[.slice (some ⟨g, 0, none⟩) n c, .int .i64 i, .slice (some ⟨vb, 0, none⟩) 1 1] w (RetRow w base (.slice (some ⟨g, 0, none⟩) n c) (l.take i ++ p :: l.drop i)) := by
  obtain ⟨i0, hi0, hz0, hz1, hz2⟩ := info_parts infoPer
  have hsz : (Tryz.prog.info? 33).map (·.size) = some 2 := by rw [hi0]; simp [hz1]
  obtain ⟨a, b⟩ := p
  obtain ⟨cur, hbg, hh, hnc, hcm, hcs, hct⟩ := own_row hown
  have hg : g < w.heap.size := (Array.getElem?_eq_some_iff.1 hh).1
  have hc63 : c ≤ 9223372036854775807 := by unfold maxLen at hcm; omega
  have hcell : ∀ j u, (flatP l)[j]? = some u → w.cell? ⟨g, j, none⟩ = some u := fun j u hj => by
    have e : w.cell? ⟨g, j, none⟩ = cur[j]? := cell_of_row w g j cur _ _ hh
    have hjl : j < (flatP l).length := (List.getElem?_eq_some_iff.1 hj).1
    rw [flatP_length, hln] at hjl
    rw [e, ← hj, ← hct, ← Array.getElem?_toList, List.getElem?_take, if_pos (by omega)]
  have hov := fun o lb cb => overlaps_no w vb g o 1 1 lb cb a b cur ho hh hne (by rw [hcs]; omega)
  have hdl : (flatP (l.drop i)).length = (n - i) * 2 := by rw [flatP_length, List.length_drop, hln]
  have hcp1 := fun ty dc sc => run_copy_rowN (P := Tryz.prog) w.drew 27 27 ty 33 2 g ((i + 1) * 2) (n - i) dc ⟨g, i * 2, none⟩ (n + 1 - i) sc (n - i) cur _ (flatP (l.drop i)) Tryz.underlying27 hsz hh (by simp only [Nat.min_def]; split <;> omega) hdl
    (fun j u hj => by rw [← flatP_drop, List.getElem?_drop] at hj; rw [Addr.add_lit]; exact hcell _ _ hj) (by rw [hdl, hcs]; omega) (flatP_one _)
  obtain ⟨C1, hC1⟩ : ∃ C1 : Array Value, C1 = (cur.toList.take ((i + 1) * 2) ++ flatP (l.drop i) ++ cur.toList.drop ((i + 1) * 2 + (flatP (l.drop i)).length)).toArray := ⟨_, rfl⟩
  rw [← hC1] at hcp1
  have hC1s : C1.size = c * 2 := by
    rw [hC1]
    simp only [List.size_toArray, List.length_append, List.length_take, List.length_drop, Array.length_toList, hdl]
    omega
  obtain ⟨W1, hW1⟩ : ∃ W1, W1 = w.drew.setRow g C1 := ⟨_, rfl⟩
  have hh1 : W1.heap[g]? = some (.cells C1 33 (0, 0)) := by rw [hW1]; exact setRow_heap _ g cur C1 _ _ hh
  have G1 : w.grownBy W1 (some g) := by rw [hW1]; exact grown_setRow (show w.grownBy w.drew (some g) from ⟨rfl, rfl, rfl, Nat.le_refl _, fun _ _ _ => rfl⟩) C1
  have ho1 : Own W1 vb 33 #[.int .i64 a, .int .i64 b] := by
    have hlt := ho.lt
    unfold Own at ho ⊢
    rw [G1.block vb hlt (by simpa using hne)]
    exact ho
  have HC1 := Lib.hid hcp1
  rw [← hW1] at HC1
  have hcp2 := fun ty dc => run_copy_rowN (P := Tryz.prog) W1 27 27 ty 33 2 g (i * 2) (n + 1 - i) dc ⟨vb, 0, none⟩ 1 1 1 C1 _ [.int .i64 a, .int .i64 b] Tryz.underlying27 hsz hh1 (by simp only [Nat.min_def]; split <;> omega) rfl (World.news_of_block ho1) (by simp only [List.length_cons, List.length_nil, hC1s]; omega) (fun u hu => by simp at hu; rcases hu with rfl | rfl <;> rfl)
  obtain ⟨C2, hC2⟩ : ∃ C2 : Array Value, C2 = (C1.toList.take (i * 2) ++ [Value.int .i64 a, Value.int .i64 b] ++ C1.toList.drop (i * 2 + 2)).toArray := ⟨_, rfl⟩
  have HC2 : Hid (∀ ty, (Builtin.copy_ #[27, 27] ty #[.slice (some ⟨g, i * 2, none⟩) (n + 1 - i) (c - i), .slice (some ⟨vb, 0, none⟩) 1 1]).run Tryz.prog W1 = .ok (goInt 1) (W1.setRow g C2)) := Lib.hid (fun ty => by rw [hC2]; exact hcp2 ty _)
  have hC2s : C2.size = c * 2 := by
    rw [hC2]
    simp only [List.size_toArray, List.length_append, List.length_take, List.length_drop, Array.length_toList, hC1s, List.length_cons, List.length_nil]
    omega
  have hct2 : cur.toList.take (i * 2) = flatP (l.take i) := by
    rw [← flatP_take, ← hct, List.take_take, Nat.min_eq_left (by omega)]
  have hC1a : C1.toList.take (i * 2) = flatP (l.take i) := by
    rw [hC1, take3 _ _ _ (n := (i + 1) * 2) (by rw [List.length_take, Array.length_toList, hcs]; exact Nat.min_eq_left (by omega)) hdl (by omega), List.take_append_of_le_length (by rw [List.length_take, Array.length_toList, hcs]; omega), List.take_take, Nat.min_eq_left (by omega)]
    exact hct2
  have hC1b : (C1.toList.drop (i * 2 + 2)).take ((n - i) * 2) = flatP (l.drop i) := by
    rw [hC1, List.append_assoc, show i * 2 + 2 = (i + 1) * 2 by omega, List.drop_left' (by rw [List.length_take, Array.length_toList, hcs]; exact Nat.min_eq_left (by omega)), List.take_left' hdl]
  have hln2 : (l.take i ++ (a, b) :: l.drop i).length = n + 1 := by rw [List.length_append, List.length_cons, List.length_take, List.length_drop]; omega
  have hC2t : C2.toList.take ((n + 1) * 2) = flatP (l.take i ++ (a, b) :: l.drop i) := by
    have hl1 : (C1.toList.take (i * 2)).length = i * 2 := by rw [List.length_take, Array.length_toList, hC1s]; exact Nat.min_eq_left (by omega)
    rw [hC2, show (n + 1) * 2 = (C1.toList.take (i * 2) ++ [Value.int .i64 a, Value.int .i64 b]).length + (n - i) * 2 by rw [List.length_append, hl1]; simp; omega, List.take_length_add_append, hC1b, hC1a, flatP_append, flatP_cons, List.append_assoc]
  have HF := Lib.hid (show (W1.setRow g C2).ownsRow base 33 2 (.slice (some ⟨g, 0, none⟩) (n + 1) c) (l.take i ++ (a, b) :: l.drop i).length (flatP (l.take i ++ (a, b) :: l.drop i)) by
    rw [hln2]
    exact own_of_row hbg (setRow_heap W1 g C1 C2 _ _ hh1) (by omega) hcm hC2s hC2t)
  have HG := Lib.hid (grown_setRow G1 C2)
  clear hcp1 hcp2 hC2 hC2s hC2t hC1a hC1b hC1s hC1 hh1 G1 ho1 hW1 hct2 hln2 hct hcs hcell hh ho hown hdl hln
  have mixed : Tryz.prog.follows .mixedOrders = true := by kernel_rfl
  have hz2 : ¬ ((i : Int) = (n : Int)) := by omega
  have hw1 : IntKind.i64.wrap ((i : Int) + 1) = (i : Int) + 1 := IntWalk.i64_in _ (by omega)
  have hw2 : IntKind.i64.wrap ((n : Int) + 1) = (n : Int) + 1 := IntWalk.i64_in _ (by omega)
  have hb0 : (0 : Int) ≤ (i : Int) := by omega
  have hb1 : (0 : Int) ≤ (i : Int) + 1 := by omega
  have hin : i ≤ n := by omega
  have hb2 : ¬ (c = i + 1) := by omega
  have hb3 : (i : Int) ≤ (n : Int) + 1 := by omega
  have hb5 : (i : Int) + 1 ≤ (n : Int) + 1 := by omega
  have hb4 : ¬ (c = i) := by omega
  go_enter Tryz.func92, Tryz.ntmps92
  go_wp2_with (simp only [hov])
  go_region_law_o (refine step_copy_runI rfl _ _ 27 27 rfl (.slice (some ⟨g, (i + 1) * 2, none⟩) (n - i) (c - (i + 1))) (.slice (some ⟨g, i * 2, none⟩) (n + 1 - i) (c - i)) (by simp [Act.eval, Act.put]) (by simp [Act.eval, Act.put]) (HC1.out _ _ _) ?_)
  have hc2 := HC2.out
  go_wp2
  go_ret
  exact ⟨_, rfl, HF.out, HG.out, fun j hj => .inl hj⟩
end Go.Proofs.YtnbeopkpkagjmaaGreat
/-
  slices.Insert of one period where there is no room. Conditions: as in RgIs.
-/
namespace Go.Proofs.YtnbeopkpkagjmaaGreat
set_option maxRecDepth 100000
set_option linter.unusedVariables false
set_option linter.unusedSimpArgs false
open Go.RowKit

set_option maxRecDepth 100000 in
set_option maxHeartbeats 6400000 in
theorem pIns_grow (g n i vb : Nat) (l : List (Int × Int)) (p : Int × Int) (w : World) (base : Nat) (hown : w.ownsRow base 33 2 (.slice (some ⟨g, 0, none⟩) n n) n (flatP l)) (hln : l.length = n) (ho : Own w vb 33 #[.int .i64 p.1, .int .i64 p.2]) (hi : i < n) (hlen : n ≤ 1000000) (hbase : base ≤ w.heap.size) :
    Calls Tryz.prog 92 #[.slice (some ⟨g, 0, none⟩) n n, .int .i64 i, .slice (some ⟨vb, 0, none⟩) 1 1] w (RetRow w base (.slice (some ⟨g, 0, none⟩) n n) (l.take i ++ p :: l.drop i)) := by
  obtain ⟨i0, hi0, hz0, hz1, hz2⟩ := info_parts infoPer
  have hsz : (Tryz.prog.info? 33).map (·.size) = some 2 := by rw [hi0]; simp [hz1]
  obtain ⟨a, b⟩ := p
  obtain ⟨cur, hbg, hh, hnc, hcm, hcs, hct⟩ := own_row hown
  have hg : g < w.heap.size := (Array.getElem?_eq_some_iff.1 hh).1
  have hcell : ∀ j u, (flatP l)[j]? = some u → w.cell? ⟨g, j, none⟩ = some u := fun j u hj => by
    have e : w.cell? ⟨g, j, none⟩ = cur[j]? := cell_of_row w g j cur _ _ hh
    have hjl : j < (flatP l).length := (List.getElem?_eq_some_iff.1 hj).1
    rw [flatP_length, hln] at hjl
    rw [e, ← hj, ← hct, ← Array.getElem?_toList, List.getElem?_take, if_pos (by omega)]
  have hdl : (flatP (l.drop i)).length = (n - i) * 2 := by rw [flatP_length, List.length_drop, hln]
  have htl : (flatP (l.take i)).length = i * 2 := by rw [flatP_length, List.length_take, hln, Nat.min_eq_left (by omega)]
  have hold : (Builtin.firstCells i0.size i (.slice (some ⟨g, 0, none⟩) i n)).run Tryz.prog w.drew = .ok (flatP (l.take i)).toArray w.drew := by
    rw [hz1]
    refine run_firstCells_some (P := Tryz.prog) w.drew 2 i ⟨g, 0, none⟩ i n (flatP (l.take i)) htl (fun j v hj => ?_)
    rw [Addr.add_lit, Nat.zero_add]
    rw [← flatP_take, List.getElem?_take] at hj
    split at hj
    · exact hcell j v hj
    · cases hj
  obtain ⟨G, hG⟩ : ∃ G, G = grownCap w (n + 1) n 33 := ⟨_, rfl⟩
  have hGn : n + 1 ≤ G := by rw [hG]; exact grownCap_ge w _ _ _
  have hGm : G ≤ maxLen := by rw [hG]; exact grownCap_le_maxLen w (n + 1) n _ (by unfold maxLen; omega)
  have hG63 : G ≤ 9223372036854775807 := by unfold maxLen at hGm; omega
  obtain ⟨ROW, hROW⟩ : ∃ ROW : Array Value, ROW = (flatP (l.take i)).toArray ++ Builtin.zeroCells (Value.agg #[.int .i64 0, .int .i64 0]).cells (n + 1 - i) ++ Builtin.zeroCells (Value.agg #[.int .i64 0, .int .i64 0]).cells (G - (n + 1)) := ⟨_, rfl⟩
  have hzc : (Value.agg #[.int .i64 0, .int .i64 0]).cells.size = 2 := rfl
  have hRs : ROW.size = G * 2 := by
    rw [hROW]
    simp only [Array.size_append, List.size_toArray, size_zeroCells, htl, hzc]
    omega
  have hRt : ROW.toList.take (i * 2) = flatP (l.take i) := by
    rw [hROW, Array.toList_append, Array.toList_append, List.append_assoc]
    exact List.take_left' htl
  obtain ⟨W1, hW1⟩ : ∃ W1, W1 = w.drew.alloc (.cells ROW 33) := ⟨_, rfl⟩
  have hrz : ∀ ty, (Builtin.append_ #[27, 3] ty #[.slice (some ⟨g, 0, none⟩) i n, .int .i64 ((n : Int) + 1 - (i : Int))]).run Tryz.prog w = .ok (.slice (some ⟨w.heap.size, 0, none⟩) (n + 1) G) W1 := fun ty => by
    have h := Lib.run_append_grow_zeros (P := Tryz.prog) w 27 3 ty 33 i0 _ .i64 .i64 Tryz.underlying27 Tryz.underlying3 hi0 hz0 (some ⟨g, 0, none⟩) i n (flatP (l.take i)) hold (n + 1 - i) (by omega) (by rw [hz1]; omega) (by omega) (by omega) (by rw [hz2]; omega) (by rw [hz2, show i + (n + 1 - i) = n + 1 by omega]; exact growslice_fits (by omega) (by omega))
    rw [show i + (n + 1 - i) = n + 1 by omega, ← hG, ← hROW, ← hW1] at h
    rw [show (n : Int) + 1 - (i : Int) = ((n + 1 - i : Nat) : Int) by omega]
    exact h
  obtain ⟨N, hN⟩ : ∃ N, N = w.heap.size := ⟨_, rfl⟩
  rw [← hN] at hrz hg hbase
  have hh1 : W1.heap[N]? = some (.cells ROW 33 (0, 0)) := by rw [hW1, hN]; exact heap_alloc_new w.drew _
  have B1 : Below w.heap.size w W1 := by rw [hW1]; exact (Below.drew (Below.refl _ _)).alloc (Nat.le_refl _) _
  have ho1 := ho.below B1 ho.lt
  have hvN : vb ≠ N := by have := ho.lt; omega
  have hgN : g ≠ N := by omega
  have hcp2 := fun ty dc => run_copy_rowN (P := Tryz.prog) W1 27 27 ty 33 2 N (i * 2) (n + 1 - i) dc ⟨vb, 0, none⟩ 1 1 1 ROW _ [.int .i64 a, .int .i64 b] Tryz.underlying27 hsz hh1 (by simp only [Nat.min_def]; split <;> omega) rfl (World.news_of_block ho1) (by simp only [List.length_cons, List.length_nil, hRs]; omega) (fun u hu => by simp at hu; rcases hu with rfl | rfl <;> rfl)
  obtain ⟨C2, hC2⟩ : ∃ C2 : Array Value, C2 = (ROW.toList.take (i * 2) ++ [Value.int .i64 a, Value.int .i64 b] ++ ROW.toList.drop (i * 2 + 2)).toArray := ⟨_, rfl⟩
  obtain ⟨W2, hW2⟩ : ∃ W2, W2 = W1.setRow N C2 := ⟨_, rfl⟩
  have HC2 : Hid (∀ ty, (Builtin.copy_ #[27, 27] ty #[.slice (some ⟨N, i * 2, none⟩) (n + 1 - i) (G - i), .slice (some ⟨vb, 0, none⟩) 1 1]).run Tryz.prog W1 = .ok (goInt 1) W2) := Lib.hid (fun ty => by rw [hW2, hC2]; exact hcp2 ty _)
  have hC2s : C2.size = G * 2 := by
    rw [hC2]
    simp only [List.size_toArray, List.length_append, List.length_take, List.length_drop, Array.length_toList, hRs, List.length_cons, List.length_nil]
    omega
  have hC2t : C2.toList.take ((i + 1) * 2) = flatP (l.take i) ++ [Value.int .i64 a, Value.int .i64 b] := by
    rw [hC2, hRt]
    exact List.take_left' (by rw [List.length_append, htl]; simp; omega)
  have hh2 : W2.heap[N]? = some (.cells C2 33 (0, 0)) := by rw [hW2]; exact setRow_heap _ N ROW C2 _ _ hh1
  have hsrc : ∀ j u, (flatP (l.drop i))[j]? = some u → W2.drew.cell? ((⟨g, i * 2, none⟩ : Addr).add j) = some u := fun j u hj => by
    rw [← flatP_drop, List.getElem?_drop] at hj
    rw [Addr.add_lit]
    have e1 := hcell _ _ hj
    have e2 := (B1.cell (p := ⟨g, i * 2 + j, none⟩) (by show g < w.heap.size; omega)).trans e1
    show W2.cell? _ = _
    rw [hW2]
    exact (World.cell?_of_block (setRow_other W1 N g C2 hgN)).trans e2
  have hcp3 := fun ty => run_copy_rowN (P := Tryz.prog) W2.drew 27 27 ty 33 2 N ((i + 1) * 2) (n - i) (G - (i + 1)) ⟨g, i * 2, none⟩ (n - i) (n - i) (n - i) C2 _ (flatP (l.drop i)) Tryz.underlying27 hsz hh2 (by simp only [Nat.min_def]; split <;> omega) hdl hsrc (by rw [hdl, hC2s]; omega) (flatP_one _)
  obtain ⟨C3, hC3⟩ : ∃ C3 : Array Value, C3 = (C2.toList.take ((i + 1) * 2) ++ flatP (l.drop i) ++ C2.toList.drop ((i + 1) * 2 + (flatP (l.drop i)).length)).toArray := ⟨_, rfl⟩
  obtain ⟨W3, hW3⟩ : ∃ W3, W3 = W2.drew.setRow N C3 := ⟨_, rfl⟩
  have HC3 : Hid (∀ ty, (Builtin.copy_ #[27, 27] ty #[.slice (some ⟨N, (i + 1) * 2, none⟩) (n - i) (G - (i + 1)), .slice (some ⟨g, i * 2, none⟩) (n - i) (n - i)]).run Tryz.prog W2.drew = .ok (goInt ((n - i : Nat) : Int)) W3) := Lib.hid (fun ty => by rw [hW3, hC3]; exact hcp3 ty)
  have hC3s : C3.size = G * 2 := by
    rw [hC3]
    simp only [List.size_toArray, List.length_append, List.length_take, List.length_drop, Array.length_toList, hC2s, hdl]
    omega
  have hln2 : (l.take i ++ (a, b) :: l.drop i).length = n + 1 := by rw [List.length_append, List.length_cons, List.length_take, List.length_drop]; omega
  have hC3t : C3.toList.take ((n + 1) * 2) = flatP (l.take i ++ (a, b) :: l.drop i) := by
    rw [hC3, hC2t, flatP_append, flatP_cons]
    rw [show flatP (l.take i) ++ ([Value.int .i64 (a, b).1, Value.int .i64 (a, b).2] ++ flatP (l.drop i)) = flatP (l.take i) ++ [Value.int .i64 a, Value.int .i64 b] ++ flatP (l.drop i) by rw [List.append_assoc]]
    exact List.take_left' (by rw [List.length_append, List.length_append, htl, hdl]; simp; omega)
  have HF := Lib.hid (show W3.ownsRow base 33 2 (.slice (some ⟨N, 0, none⟩) (n + 1) G) (l.take i ++ (a, b) :: l.drop i).length (flatP (l.take i ++ (a, b) :: l.drop i)) by
    rw [hln2]
    exact own_of_row hbase (by rw [hW3]; exact setRow_heap _ N C2 C3 _ _ hh2) hGn hGm hC3s hC3t)
  have HG := Lib.hid (show w.grownBy W3 (some g) by
    rw [hW3]
    have g2 : w.grownBy W2 (some g) := by rw [hW2]; exact grown_newRow (grown_of_below B1 _) (by omega) C2
    exact grown_newRow (show w.grownBy W2.drew (some g) from ⟨g2.os, g2.tape, g2.output, g2.size, g2.block⟩) (by omega) C3)
  have HNN := Lib.hid (show w.heap.size ≤ N by omega)
  clear hcp2 hcp3 hC2 hC2s hC2t hC3 hC3s hC3t hh1 hh2 B1 ho1 hW1 hW2 hW3 hRt hRs hROW hold hct hcs hcell hh ho hown hdl htl hsrc hln2 hN hG hGm hvN hgN
  have mixed : Tryz.prog.follows .mixedOrders = true := by kernel_rfl
  have hz2 : ¬ ((i : Int) = (n : Int)) := by omega
  have hz3 : (n : Int) < (n : Int) + 1 := by omega
  have hw1 : IntKind.i64.wrap ((i : Int) + 1) = (i : Int) + 1 := IntWalk.i64_in _ (by omega)
  have hw2 : IntKind.i64.wrap ((n : Int) + 1) = (n : Int) + 1 := IntWalk.i64_in _ (by omega)
  have hw3 : IntKind.i64.wrap ((n : Int) + 1 - (i : Int)) = (n : Int) + 1 - (i : Int) := IntWalk.i64_in _ (by omega)
  have hb0 : (0 : Int) ≤ (i : Int) := by omega
  have hb1 : (0 : Int) ≤ (i : Int) + 1 := by omega
  have hin : i ≤ n := by omega
  have hb3 : (i : Int) ≤ (n : Int) + 1 := by omega
  have hb5 : (i : Int) + 1 ≤ (n : Int) + 1 := by omega
  have hb4 : ¬ (n = i) := by omega
  have hb6 : ¬ (G = i) := by omega
  have hb7 : ¬ (G = i + 1) := by omega
  have hrz0 := hrz
  have HRZ := Lib.hid hrz0
  clear hrz hrz0
  go_enter Tryz.func92, Tryz.ntmps92
  have hc2 := HC2.out
  go_wp2_with (at_builtin; refine Lib.wpList_append_run _ rfl _ _ _ _ rfl _ _ rfl rfl _ _ (HRZ.out _) ?_)
  go_region_law_o (refine step_copy_runI rfl _ _ 27 27 rfl (.slice (some ⟨N, (i + 1) * 2, none⟩) (n - i) (G - (i + 1))) (.slice (some ⟨g, i * 2, none⟩) (n - i) (n - i)) (by simp [Act.eval, Act.put]) (by simp [Act.eval, Act.put]) (HC3.out _) ?_)
  go_wp2
  go_ret
  exact ⟨_, rfl, HF.out, HG.out, fun j hj => .inr (by
    have e : N = j := by simpa [Value.ownBlock] using hj
    have := HNN.out
    omega)⟩
/-- Insert, wherever the period belongs. -/
theorem pIns_any (v : Value) (l : List (Int × Int)) (p : Int × Int) (i vb : Nat) (w : World) (base : Nat) (hown : w.ownsRow base 33 2 v l.length (flatP l)) (ho : Own w vb 33 #[.int .i64 p.1, .int .i64 p.2]) (hv : ∀ g, v.ownBlock = some g → vb ≠ g) (hbase : base ≤ w.heap.size) (hi : i ≤ l.length) (hlen : l.length ≤ 1000000) :
    Calls Tryz.prog 92 #[v, .int .i64 i, .slice (some ⟨vb, 0, none⟩) 1 1] w (RetRow w base v (l.take i ++ p :: l.drop i)) := by
  by_cases he : i = l.length
  · subst he
    rw [List.take_of_length_le (Nat.le_refl _), List.drop_eq_nil_of_le (Nat.le_refl _)]
    exact pIns_end v l p vb w base hown ho hbase hlen
  · rcases own_get hown with ⟨_, h0⟩ | ⟨g, c, rfl, hbg, hg, hnc, _⟩
    · omega
    · by_cases hr : l.length + 1 ≤ c
      · exact pIns_shift g c l.length i vb l p w base hown rfl ho (hv g rfl) (by omega) hr hlen
      · obtain rfl : c = l.length := by omega
        exact pIns_grow g l.length i vb l p w base hown rfl ho (by omega) hlen hbase
end Go.Proofs.YtnbeopkpkagjmaaGreat
