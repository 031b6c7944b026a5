import Derived.Test.YtclpemmpckjemaaDoorCoX
import Derived.Test.YtclpemmpckjemaaDoorCoVd
import Derived.Test.YtclpemmpckjemaaDoorCoQa
import Derived.WalkKit
import Derived.WalkSpells
import Derived.WalkLawsBesides
import Derived.Deep.QuietTactic
import Derived.BigQuiet
import Derived.Handy
import Derived.Lib.Hide
import Derived.Test.YtclpemmpckjemaaDoorCoR
import Derived.Laws.AppendOwn
import Derived.Laws.MakeOwn
/-
  Row of the program and of the reference: which row is read from any bytes at any offset; rows of the statements. Conditions: lengths.
-/
namespace Go.Proofs.YtclpemmpckjemaaDoor
open Go.RowKit

/-- The cells of values, one behind the other. -/
def flatV : List Vl → List Value
  | [] => []
  | p :: t => .int .i64 p.1 :: .int .i64 p.2.1 :: .string p.2.2 :: flatV t
theorem flatV_append : ∀ a b : List Vl, flatV (a ++ b) = flatV a ++ flatV b
  | [], b => rfl
  | p :: t, b => by
    show .int .i64 p.1 :: .int .i64 p.2.1 :: .string p.2.2 :: flatV (t ++ b) = _
    rw [flatV_append t b]
    rfl
theorem flatV_len : ∀ a : List Vl, (flatV a).length = a.length * 3
  | [] => rfl
  | p :: t => by
    show (flatV t).length + 1 + 1 + 1 = _
    rw [flatV_len t, List.length_cons]
    omega
theorem flatV_get (ps : List Vl) (k : Nat) (p : Vl) (h : ps[k]? = some p) : (flatV ps)[k * 3]? = some (.int .i64 p.1) ∧ (flatV ps)[k * 3 + 1]? = some (.int .i64 p.2.1) ∧ (flatV ps)[k * 3 + 2]? = some (.string p.2.2) := by
  obtain ⟨hk, rfl⟩ := List.getElem?_eq_some_iff.1 h
  have e : ps = ps.take k ++ ps[k] :: ps.drop (k + 1) := by rw [List.getElem_cons_drop, List.take_append_drop]
  have e2 : flatV ps = flatV (ps.take k) ++ (.int .i64 ps[k].1 :: .int .i64 ps[k].2.1 :: .string ps[k].2.2 :: flatV (ps.drop (k + 1))) := by
    conv => lhs; rw [e]
    rw [flatV_append]
    rfl
  have hl : (flatV (ps.take k)).length = k * 3 := by rw [flatV_len, List.length_take]; omega
  rw [e2]
  refine ⟨?_, ?_, ?_⟩
  · rw [List.getElem?_append_right (by omega), hl, show k * 3 - k * 3 = 0 by omega]; rfl
  · rw [List.getElem?_append_right (by omega), hl, show k * 3 + 1 - k * 3 = 1 by omega]; rfl
  · rw [List.getElem?_append_right (by omega), hl, show k * 3 + 2 - k * 3 = 2 by omega]; rfl
def zV : Vl := (0, 0, ⟨#[]⟩)
/-- The cells of a row of n values of which those of ps are read. -/
def rowC (ps : List Vl) (n : Nat) : Array Value := (flatV (ps ++ List.replicate (n - ps.length) zV)).toArray
theorem rowC_next (ps : List Vl) (n : Nat) (h : ps.length < n) : (rowC ps n)[ps.length * 3]? = some (.int .i64 0) ∧ (rowC ps n)[ps.length * 3 + 1]? = some (.int .i64 0) ∧ (rowC ps n)[ps.length * 3 + 2]? = some (.string ⟨#[]⟩) := by
  have hg : (ps ++ List.replicate (n - ps.length) zV)[ps.length]? = some zV := by
    rw [List.getElem?_append_right (Nat.le_refl _), Nat.sub_self, List.getElem?_replicate, if_pos (by omega)]
  obtain ⟨h1, h2, h3⟩ := flatV_get _ _ _ hg
  unfold rowC
  simp only [List.getElem?_toArray]
  exact ⟨h1, h2, h3⟩
theorem set3 (a : List Value) (x y z x' y' z' : Value) (b : List Value) (i : Nat) (h : a.length = i) : (((a ++ x :: y :: z :: b).set i x').set (i + 1) y').set (i + 2) z' = a ++ x' :: y' :: z' :: b := by
  subst h
  rw [List.set_append_right _ _ (by omega), Nat.sub_self, List.set_cons_zero, List.set_append_right _ _ (by omega), show a.length + 1 - a.length = 1 by omega, List.set_append_right _ _ (by omega), show a.length + 2 - a.length = 2 by omega]
  rfl
theorem rowC_set (ps : List Vl) (n : Nat) (p : Vl) (h : ps.length < n) : (((rowC ps n).setIfInBounds (ps.length * 3) (.int .i64 p.1)).setIfInBounds (ps.length * 3 + 1) (.int .i64 p.2.1)).setIfInBounds (ps.length * 3 + 2) (.string p.2.2) = rowC (ps ++ [p]) n := by
  unfold rowC
  rw [List.setIfInBounds_toArray, List.setIfInBounds_toArray, List.setIfInBounds_toArray, flatV_append, flatV_append, flatV_append]
  have e : List.replicate (n - ps.length) zV = zV :: List.replicate (n - (ps ++ [p]).length) zV := by
    rw [show n - ps.length = (n - (ps ++ [p]).length) + 1 by rw [List.length_append]; simp; omega]
    rfl
  rw [e]
  show (List.set _ _ _).toArray = _
  have := set3 (flatV ps) (.int .i64 0) (.int .i64 0) (.string ⟨#[]⟩) (.int .i64 p.1) (.int .i64 p.2.1) (.string p.2.2) (flatV (List.replicate (n - (ps ++ [p]).length) zV)) (ps.length * 3) (flatV_len ps)
  show (List.set (List.set (List.set (flatV ps ++ (.int .i64 0 :: .int .i64 0 :: .string ⟨#[]⟩ :: flatV (List.replicate (n - (ps ++ [p]).length) zV))) _ _) _ _) _ _).toArray = _
  rw [this]
  show _ = (flatV ps ++ flatV [p] ++ _).toArray
  rw [List.append_assoc]
  rfl
theorem rdV_row {w : World} {g : Nat} {ps : List Vl} (h : Own w g 24 (rowC ps ps.length)) (hl : ps.length ≤ 9223372036854775807) : RdV w 0 w.heap.size (.slice (some ⟨g, 0, none⟩) ps.length ps.length) ps := by
  refine ⟨_, _, rfl, hl, fun k p hk => ⟨_, rfl, Nat.zero_le _, h.lt, ?_⟩⟩
  have h0 : rowC ps ps.length = (flatV ps).toArray := by unfold rowC; rw [Nat.sub_self]; simp
  rw [h0] at h
  obtain ⟨h1, h2, h3⟩ := flatV_get ps k p hk
  have ea : (⟨g, 0, none⟩ : Addr).add (k * 3) = ⟨g, k * 3, none⟩ := by unfold Addr.add; split <;> simp_all
  rw [ea]
  exact ⟨(h.cell _).trans (by simpa using h1), (h.cell _).trans (by simpa using h2), (h.cell _).trans (by simpa using h3)⟩
theorem rdV_nil (w : World) (L B : Nat) : RdV w L B (.slice none 0 0) [] := ⟨none, 0, rfl, by simp, fun k b h => by simp at h⟩
theorem infoV : (Tryd.prog.info? 24).map (fun i => (i.zero, i.size, i.bytes)) = some (some (.agg #[.int .i64 0, .int .i64 0, .string ⟨#[]⟩]), 3, 32) := by kernel_rfl
theorem RdV.of_own {w : World} {base : Nat} {v : Value} {ps : List Vl} (h : w.ownsRow base 24 3 v ps.length (flatV ps)) (hl : ps.length ≤ 9223372036854775807) : RdV w base w.heap.size v ps := by
  rcases h.2 with ⟨rfl, h0⟩ | ⟨g, cap, cur, rfl, hb, hh, hn, hc, hs, ht⟩
  · obtain rfl := List.eq_nil_of_length_eq_zero h0
    exact ⟨none, 0, rfl, by simp, fun k n hk => by simp at hk⟩
  · have hg : g < w.heap.size := by
      rcases Nat.lt_or_ge g w.heap.size with h1 | h1
      · exact h1
      · rw [Array.getElem?_eq_none h1] at hh; cases hh
    have he : ∀ i u, (flatV ps)[i]? = some u → w.cell? ⟨g, i, none⟩ = some u := fun i u hu => by
      rw [cell_of_row w g i cur _ _ hh, ← Array.getElem?_toList]
      rw [← ht, List.getElem?_take] at hu
      split at hu
      · exact hu
      · cases hu
    refine ⟨_, cap, rfl, hl, fun k p hk => ⟨_, rfl, hb, hg, ?_⟩⟩
    obtain ⟨h1, h2, h3⟩ := flatV_get ps k p hk
    have ea : (⟨g, 0, none⟩ : Addr).add (k * 3) = ⟨g, k * 3, none⟩ := by unfold Addr.add; split <;> simp_all
    rw [ea]
    exact ⟨he _ _ h1, he _ _ h2, he _ _ h3⟩
theorem append_val {ops : Array Oper} {rest : List Oper} {o : Oper} {a : Act} {Q : Exit → Act → World → Prop} (W : World) (hgd : o.guard = none) (s x : Operand)
    (ho : o.op = .call { callee := .builtin .append, args := #[s, x], argTypes := #[22, 22] }) (base : Nat) (v : Value) (l : List Vl) (hs : a.eval s = v)
    (hown : W.ownsRow base 24 3 v l.length (flatV l)) (ad : Addr) (m : List Vl) (c : Nat) (hx : a.eval x = .slice (some ad) m.length c)
    (hnew : ∀ j u, (flatV m)[j]? = some u → W.cell? (ad.add j) = some u) (hl : l.length + m.length ≤ 2199023255552) (hbase : base ≤ W.heap.size)
    (h : ∀ v' w', w'.ownsRow base 24 3 v' (l ++ m).length (flatV (l ++ m)) → Below base W w' → wpList Tryd.prog ops Q rest (a.put o.dst v') w') :
    wpList Tryd.prog ops Q (o :: rest) a W := by
  obtain ⟨i0, hi, hz0, hz1, hz2⟩ := info_partsB infoV
  refine wpList_append_own _ hgd s x 22 ho base 24 i0 (.agg #[.int .i64 0, .int .i64 0, .string ⟨#[]⟩]) 3 32 Tryd.underlying22 hi hz0 hz1 hz2 rfl (by decide) v l.length (flatV l) hs hown ad m.length c (flatV m) hx (by rw [flatV_len])
    hnew (fun u hu => ?_) (by unfold maxLen; omega) (by omega) hbase ?_
  · have hall : ∀ ps : List Vl, ∀ u ∈ flatV ps, u.oneCell' = true := by
      intro ps
      induction ps with
      | nil => intro u hu; cases hu
      | cons p t ih =>
        intro u hu
        have hu2 : u ∈ (.int .i64 p.1 :: .int .i64 p.2.1 :: .string p.2.2 :: flatV t : List Value) := hu
        simp only [List.mem_cons] at hu2
        rcases hu2 with rfl | rfl | rfl | hu2
        · rfl
        · rfl
        · rfl
        · exact ih u hu2
    exact hall m u hu
  · intro v' w' h1 h2 _
    exact h v' w' (by rw [flatV_append, List.length_append]; exact h1) ((Below.refl _ _).grown h2 hbase fun k hk => (hown.lt k hk).1)
theorem made0 : madeCells (Value.agg #[.int .i64 0, .int .i64 0, .string ⟨#[]⟩]).cells (0 * 3) = rowC [] 0 := by kernel_rfl
theorem made1 : madeCells (Value.agg #[.int .i64 0, .int .i64 0, .string ⟨#[]⟩]).cells (1 * 3) = rowC [] 1 := by kernel_rfl
theorem made2 : madeCells (Value.agg #[.int .i64 0, .int .i64 0, .string ⟨#[]⟩]).cells (2 * 3) = rowC [] 2 := by kernel_rfl
theorem made3 : madeCells (Value.agg #[.int .i64 0, .int .i64 0, .string ⟨#[]⟩]).cells (3 * 3) = rowC [] 3 := by kernel_rfl
theorem made4 : madeCells (Value.agg #[.int .i64 0, .int .i64 0, .string ⟨#[]⟩]).cells (4 * 3) = rowC [] 4 := by kernel_rfl
theorem made5 : madeCells (Value.agg #[.int .i64 0, .int .i64 0, .string ⟨#[]⟩]).cells (5 * 3) = rowC [] 5 := by kernel_rfl
theorem made6 : madeCells (Value.agg #[.int .i64 0, .int .i64 0, .string ⟨#[]⟩]).cells (6 * 3) = rowC [] 6 := by kernel_rfl
theorem made7 : madeCells (Value.agg #[.int .i64 0, .int .i64 0, .string ⟨#[]⟩]).cells (7 * 3) = rowC [] 7 := by kernel_rfl
theorem made8 : madeCells (Value.agg #[.int .i64 0, .int .i64 0, .string ⟨#[]⟩]).cells (8 * 3) = rowC [] 8 := by kernel_rfl
theorem made9 : madeCells (Value.agg #[.int .i64 0, .int .i64 0, .string ⟨#[]⟩]).cells (9 * 3) = rowC [] 9 := by kernel_rfl
theorem made10 : madeCells (Value.agg #[.int .i64 0, .int .i64 0, .string ⟨#[]⟩]).cells (10 * 3) = rowC [] 10 := by kernel_rfl
theorem made11 : madeCells (Value.agg #[.int .i64 0, .int .i64 0, .string ⟨#[]⟩]).cells (11 * 3) = rowC [] 11 := by kernel_rfl
theorem made12 : madeCells (Value.agg #[.int .i64 0, .int .i64 0, .string ⟨#[]⟩]).cells (12 * 3) = rowC [] 12 := by kernel_rfl
theorem made_row (W : World) (g : Nat) (hg : g = W.heap.size) (n : Nat) (hn : n ≤ 12) (N : Int) (hN : N = (n : Nat)) :
    (Instr.makeSlice 22 (.int .i64 N) (.int .i64 N)).run Tryd.prog W = .ok (.slice (some ⟨g, 0, none⟩) n n) (W.alloc (.cells (rowC [] n) 24)) := by
  subst hg hN
  obtain ⟨i0, hi, hz0, hz1, hz2⟩ := info_partsB infoV
  have h := run_makeSlice (P := Tryd.prog) (w := W) 22 24 i0 (.agg #[.int .i64 0, .int .i64 0, .string ⟨#[]⟩]) Tryd.underlying22 hi hz0 .i64 .i64 (n : Int) (n : Int) (by omega) (Int.le_refl _) (by rw [hz1, Int.toNat_natCast]; omega) (by rw [hz2]; omega) (by omega)
  rw [h, Int.toNat_natCast, hz1]
  have hr : madeCells (Value.agg #[.int .i64 0, .int .i64 0, .string ⟨#[]⟩]).cells (n * 3) = rowC [] n := by
    have h12 : n = 0 ∨ n = 1 ∨ n = 2 ∨ n = 3 ∨ n = 4 ∨ n = 5 ∨ n = 6 ∨ n = 7 ∨ n = 8 ∨ n = 9 ∨ n = 10 ∨ n = 11 ∨ n = 12 := by omega
    rcases h12 with rfl | rfl | rfl | rfl | rfl | rfl | rfl | rfl | rfl | rfl | rfl | rfl | rfl
    · exact made0
    · exact made1
    · exact made2
    · exact made3
    · exact made4
    · exact made5
    · exact made6
    · exact made7
    · exact made8
    · exact made9
    · exact made10
    · exact made11
    · exact made12
  rw [hr]
/-- n values read from the k-th byte on: the error, the values, where the next begins. -/
def readR (l : List UInt8) : Nat → Nat → Nat × List Vl × Nat
  | k, 0 => (0, [], k)
  | k, n + 1 => if (valF l k).1 = 0 then (if (readR l (valF l k).2.2 n).1 = 0 then (0, (valF l k).2.1 :: (readR l (valF l k).2.2 n).2.1, (readR l (valF l k).2.2 n).2.2) else ((readR l (valF l k).2.2 n).1, [], 0)) else ((valF l k).1, [], 0)
def comb (ps : List Vl) (y : Nat × List Vl × Nat) : Nat × List Vl × Nat := if y.1 = 0 then (0, ps ++ y.2.1, y.2.2) else (y.1, [], 0)
theorem readR_err (l : List UInt8) : ∀ (n k : Nat), (readR l k n).1 ≠ 0 → readR l k n = ((readR l k n).1, [], 0) := by
  intro n
  cases n with
  | zero => intro k h; exact absurd rfl h
  | succ n =>
    intro k h
    unfold readR at h ⊢
    split
    · split
      · rename_i h1 h2
        rw [if_pos h1, if_pos h2] at h
        exact absurd rfl h
      · rfl
    · rfl
theorem comb_nil (l : List UInt8) (k n : Nat) : comb [] (readR l k n) = readR l k n := by
  unfold comb
  by_cases h : (readR l k n).1 = 0
  · rw [if_pos h, List.nil_append, ← h]
  · rw [if_neg h]; exact (readR_err l n k h).symm
theorem comb_step (l : List UInt8) (ps : List Vl) (k n : Nat) (e : Nat) (p : Vl) (k2 : Nat) (hX : valF l k = (e, p, k2)) : comb ps (readR l k (n + 1)) = if e = 0 then comb (ps ++ [p]) (readR l k2 n) else (e, [], 0) := by
  rw [readR, hX]
  dsimp only
  by_cases he : e = 0
  · rw [if_pos he, if_pos he]
    unfold comb
    by_cases h : (readR l k2 n).1 = 0
    · rw [if_pos h, if_pos rfl, if_pos h]
      simp
    · rw [if_neg h, if_neg h]
      dsimp only
      rw [if_neg h]
  · rw [if_neg he, if_neg he]
    unfold comb
    dsimp only
    rw [if_neg he]
theorem comb_zero (l : List UInt8) (ps : List Vl) (k : Nat) : comb ps (readR l k 0) = (0, ps, k) := by
  rw [readR]; unfold comb; rw [if_pos rfl, List.append_nil]
/-- What Row answers. -/
def rowF (l : List UInt8) (i : Int) : Nat × List Vl × Nat :=
  if (intF l i).1 = 0 then if (intF l i).2.1 < 0 then (1, [], 0) else if (intF l i).2.1 > 12 then (5, [], 0) else readR l (intF l i).2.2 (intF l i).2.1.toNat else ((intF l i).1, [], 0)
def RetW (w : World) (x : Nat × List Vl × Nat) (e : Ending) (w' : World) : Prop := ∃ u, e = .returned (.tuple #[u, .int .i64 (x.2.2 : Nat), .int .i64 (x.1 : Nat)]) ∧ RdV w' 0 w'.heap.size u x.2.1 ∧ Below w.heap.size w w'
theorem lit_cells (W : World) (g : Nat) (hg : g = W.heap.size) (k n : Int) (s : ByteArray) : ∀ j u, (flatV [(k, n, s)])[j]? = some u → (W.alloc (.cells #[.int .i64 k, .int .i64 n, .string s] 24)).cell? ((⟨g, 0, none⟩ : Addr).add j) = some u := by
  subst hg
  intro j u hu
  rw [cell_add0, (Own.new W 24 #[.int .i64 k, .int .i64 n, .string s]).cell j]
  simpa [flatV] using hu
set_option maxRecDepth 100000 in
set_option maxHeartbeats 6400000 in
theorem pRow_any (v : Value) (l : List UInt8) (i : Int) (w : World) (L : Nat) (hv : RdB w L w.heap.size v l) :
    Calls Tryd.prog 11 #[v, .int .i64 i] w (RetW w (rowF l i)) := by
  have h1 := pInt_any v l i w L hv
  have HVL := Lib.hid (fun (k : Nat) W (h : Below w.heap.size w W) => pVal_any v l k W L (hv.step h (Nat.le_refl _)))
  obtain ⟨A, c, rfl, hl63, _, _⟩ := hv
  rcases hX : intF l i with ⟨e1, n1, k1⟩
  rw [hX] at h1
  dsimp only at h1
  unfold RetW
  by_cases he1 : e1 = 0
  · subst he1
    by_cases c1 : n1 < 0
    · have HF := Lib.hid (show rowF l i = (1, [], 0) by unfold rowF; rw [hX]; dsimp only; rw [if_pos rfl, if_pos c1])
      clear hX HVL
      go_enter Tryd.func11, Tryd.ntmps11
      go_wp2_with fail
      with_reducible refine h1.mono ?_
      rintro e w1 ⟨rfl, hb1⟩
      clear h1
      go_wp2_with fail
      go_ret3
      exact ⟨_, by rw [HF.out]; rfl, by rw [HF.out]; exact rdV_nil _ _ _, hb1⟩
    · by_cases c2 : n1 > 12
      · have HF := Lib.hid (show rowF l i = (5, [], 0) by unfold rowF; rw [hX]; dsimp only; rw [if_pos rfl, if_neg c1, if_pos c2])
        clear hX HVL
        go_enter Tryd.func11, Tryd.ntmps11
        go_wp2_with fail
        with_reducible refine h1.mono ?_
        rintro e w1 ⟨rfl, hb1⟩
        clear h1
        go_wp2_with fail
        go_ret3
        exact ⟨_, by rw [HF.out]; rfl, by rw [HF.out]; exact rdV_nil _ _ _, hb1⟩
      · obtain ⟨n, rfl⟩ := Int.eq_ofNat_of_zero_le (show 0 ≤ n1 by omega)
        have HF := Lib.hid (show rowF l i = comb [] (readR l k1 n) by unfold rowF; rw [hX, comb_nil]; dsimp only; rw [if_pos rfl, if_neg c1, if_neg c2, Int.toNat_natCast])
        have hn12 : n ≤ 12 := by omega
        clear hX
        go_enter Tryd.func11, Tryd.ntmps11
        go_wp2_with fail
        with_reducible refine h1.mono ?_
        rintro e w1 ⟨rfl, hb1⟩
        clear h1
        have hmk := made_row w1 w1.heap.size rfl n hn12 (n : Nat) rfl
        have b2 := bel_mark w1 (.cells (rowC [] n) 24)
        have B2 := hb1.trans (b2.mono hb1.size)
        have o2 := Own.new w1 24 (rowC [] n)
        have hgl : w1.heap.size < (w1.alloc (.cells (rowC [] n) 24)).heap.size := by simp
        generalize hgg : w1.heap.size = g at *
        have HB2 := Lib.hid B2
        have HO2 := Lib.hid o2
        clear b2 B2 o2 hgl
        go_wp2_with fail
        clear hmk
        go_loopw [1, 8, 32] (fun k er j wr => ∃ (ps : List Vl) (kk : Nat), ps.length ≤ n ∧ j = .int .i64 (ps.length : Nat) ∧ k = .int .i64 (kk : Nat) ∧ er = .int .i64 0 ∧ Hid (Own wr g 24 (rowC ps n)) ∧ Hid (rowF l i = comb ps (readR l kk (n - ps.length))) ∧ Below w.heap.size w wr ∧ w.heap.size ≤ g) (fun _ _ j _ => n - (intOf j).toNat)
        case atStart => exact ⟨[], k1, Nat.zero_le _, rfl, rfl, rfl, Lib.hid HO2.out, Lib.hid HF.out, HB2.out, by rw [← hgg]; exact hb1.size⟩
        case round =>
          obtain ⟨ps, kk, hpl, rfl, rfl, rfl, HO, HC, hbr, hwg⟩ := hrel
          have hcl := HVL.out kk wr hbr
          by_cases hlt : ps.length < n
          · have hlti : (ps.length : Int) < n := by omega
            rcases hY : valF l kk with ⟨e2, ⟨xk, xn, xs⟩, k2⟩
            rw [hY] at hcl
            unfold valR valV at hcl
            dsimp only at hcl
            have hst := comb_step l ps kk (n - (ps.length + 1)) e2 (xk, xn, xs) k2 hY
            rw [show n - (ps.length + 1) + 1 = n - ps.length by omega, ← HC.out] at hst
            have HST := Lib.hid hst
            obtain ⟨z0, z1, z2⟩ := rowC_next ps n hlt
            have HRS := Lib.hid (rowC_set ps n (xk, xn, xs) hlt)
            clear hY hst
            by_cases he2 : e2 = 0
            · subst he2
              have HST2 := Lib.hid (show rowF l i = comb (ps ++ [(xk, xn, xs)]) (readR l k2 (n - (ps.length + 1))) by rw [HST.out, if_pos rfl])
              clear HST
              go_wp2_with fail
              with_reducible refine hcl.mono ?_
              rintro e w2 ⟨rfl, hb2⟩
              clear hcl
              have o3 := HO.out.below hb2 HO.out.lt
              have B3 := hbr.trans (hb2.mono hbr.size)
              have d0 := (o3.cell (ps.length * 3)).trans z0
              have d1 := (o3.cell (ps.length * 3 + 1)).trans z1
              have d2 := (o3.cell (ps.length * 3 + 2)).trans z2
              have e0 := o3.free (ps.length * 3)
              have e1 := o3.free (ps.length * 3 + 1)
              have e2 := o3.free (ps.length * 3 + 2)
              have o4 := ((o3.store (ps.length * 3) (.int .i64 xk)).store (ps.length * 3 + 1) (.int .i64 xn)).store (ps.length * 3 + 2) (.string xs)
              rw [HRS.out] at o4
              have HO4 := Lib.hid o4
              have HBX := Lib.hid (((B3.setCell (p := ⟨g, ps.length * 3, none⟩) hwg (.int .i64 xk)).setCell (p := ⟨g, ps.length * 3 + 1, none⟩) hwg (.int .i64 xn)).setCell (p := ⟨g, ps.length * 3 + 2, none⟩) hwg (.string xs))
              clear o3 o4 z0 z1 z2 HO HRS
              go_wp2
              go_roundw
              case rel => exact ⟨ps ++ [(xk, xn, xs)], k2, by rw [List.length_append]; simp; omega, by rw [List.length_append]; first | rfl | go_num, rfl, by first | rfl | go_num, HO4, Lib.hid (by rw [HST2.out, List.length_append]; rfl), HBX.out, hwg⟩
              case measure => simp [intOf]; omega
            · have he2i : ¬ (e2 : Int) = 0 := by omega
              have HF2 := Lib.hid (HST.out.trans (if_neg he2))
              go_wp2_with fail
              with_reducible refine hcl.mono ?_
              rintro e w2 ⟨rfl, hb2⟩
              clear hcl
              have o3 := HO.out.below hb2 HO.out.lt
              have B3 := hbr.trans (hb2.mono hbr.size)
              have d0 := (o3.cell (ps.length * 3)).trans z0
              have d1 := (o3.cell (ps.length * 3 + 1)).trans z1
              have d2 := (o3.cell (ps.length * 3 + 2)).trans z2
              have e0 := o3.free (ps.length * 3)
              have e1 := o3.free (ps.length * 3 + 1)
              have e2 := o3.free (ps.length * 3 + 2)
              have HBX := Lib.hid (((B3.setCell (p := ⟨g, ps.length * 3, none⟩) hwg (.int .i64 xk)).setCell (p := ⟨g, ps.length * 3 + 1, none⟩) hwg (.int .i64 xn)).setCell (p := ⟨g, ps.length * 3 + 2, none⟩) hwg (.string xs))
              clear o3 z0 z1 z2 HO HRS HST he2
              go_wp2
              go_ret3
              exact ⟨_, by rw [HF2.out]; rfl, by rw [HF2.out]; exact rdV_nil _ _ _, HBX.out⟩
          · have hpn : ps.length = n := by omega
            have HF2 := Lib.hid (show rowF l i = (0, ps, kk) by rw [HC.out, show n - ps.length = 0 by omega, comb_zero])
            clear hcl hlt
            subst hpn
            go_wp2
            go_ret3
            exact ⟨_, by rw [HF2.out]; rfl, by rw [HF2.out]; exact rdV_row HO.out (by omega), hbr⟩
  · have HF := Lib.hid (show rowF l i = (e1, [], 0) by unfold rowF; rw [hX]; dsimp only; rw [if_neg he1])
    have he1i : ¬ (e1 : Int) = 0 := by omega
    clear hX HVL
    go_enter Tryd.func11, Tryd.ntmps11
    go_wp2_with fail
    with_reducible refine h1.mono ?_
    rintro e w1 ⟨rfl, hb1⟩
    clear h1
    go_wp2_with fail
    go_ret3
    exact ⟨_, by rw [HF.out]; rfl, by rw [HF.out]; exact rdV_nil _ _ _, hb1⟩
theorem neq_self (k n : Int) (s : ByteArray) (w : World) : (binOp .neq 24 (.agg #[.int .i64 k, .int .i64 n, .string s]) (.agg #[.int .i64 k, .int .i64 n, .string s])).run Tryd.prog w = .ok (.bool false) w := by
  rw [run_neq_struct, run_equalIn_struct w 9999 24 _ _ (by kernel_rfl) (by kernel_rfl)]
  simp [Program.fieldsOf, Op.eqFields, Tryd.underlying24, Tryd.underlying3, Tryd.underlying9, part, isAgg, go_sem]
end Go.Proofs.YtclpemmpckjemaaDoor
