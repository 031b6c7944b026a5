/-
  Row of the program and of the reference: which row is read from any bytes at any offset; rows of the statements. Conditions: lengths.
-/
import Derived.Test.YtomiegfblhhhpaaCoX
import Derived.Test.YtomiegfblhhhpaaCoXr
import Derived.Test.YtomiegfblhhhpaaCoR
import Derived.Laws.AppendOwn
import Derived.Laws.MakeOwn
import Derived.WalkKit
import Derived.WalkSpells
import Derived.WalkLawsBesides
import Derived.Deep.QuietTactic
import Derived.BigQuiet
import Derived.Handy
import Derived.Lib.Hide
namespace Go.Proofs.Ytomiegfblhhhpaa
open Go.RowKit

/-- The cells of values, one behind the other. -/
def flatV : List Vl → List Value
  | [] => []
  | p :: t => .int .i64 p.1 :: .int .i64 p.2.1 :: .string p.2.2 :: flatV t
theorem flatV_append : ∀ a b : List Vl, flatV (a ++ b) = flatV a ++ flatV b
  | [], b => rfl
  | p :: t, b => by
    show .int .i64 p.1 :: .int .i64 p.2.1 :: .string p.2.2 :: flatV (t ++ b) = _
    rw [flatV_append t b]
    rfl
theorem flatV_len : ∀ a : List Vl, (flatV a).length = a.length * 3
  | [] => rfl
  | p :: t => by
    show (flatV t).length + 1 + 1 + 1 = _
    rw [flatV_len t, List.length_cons]
    omega
theorem flatV_get (ps : List Vl) (k : Nat) (p : Vl) (h : ps[k]? = some p) : (flatV ps)[k * 3]? = some (.int .i64 p.1) ∧ (flatV ps)[k * 3 + 1]? = some (.int .i64 p.2.1) ∧ (flatV ps)[k * 3 + 2]? = some (.string p.2.2) := by
  obtain ⟨hk, rfl⟩ := List.getElem?_eq_some_iff.1 h
  have e : ps = ps.take k ++ ps[k] :: ps.drop (k + 1) := by rw [List.getElem_cons_drop, List.take_append_drop]
  have e2 : flatV ps = flatV (ps.take k) ++ (.int .i64 ps[k].1 :: .int .i64 ps[k].2.1 :: .string ps[k].2.2 :: flatV (ps.drop (k + 1))) := by
    conv => lhs; rw [e]
    rw [flatV_append]
    rfl
  have hl : (flatV (ps.take k)).length = k * 3 := by rw [flatV_len, List.length_take]; omega
  rw [e2]
  refine ⟨?_, ?_, ?_⟩
  · rw [List.getElem?_append_right (by omega), hl, show k * 3 - k * 3 = 0 by omega]; rfl
  · rw [List.getElem?_append_right (by omega), hl, show k * 3 + 1 - k * 3 = 1 by omega]; rfl
  · rw [List.getElem?_append_right (by omega), hl, show k * 3 + 2 - k * 3 = 2 by omega]; rfl
def zV : Vl := (0, 0, ⟨#[]⟩)
/-- The cells of a row of n values of which those of ps are read. -/
def rowC (ps : List Vl) (n : Nat) : Array Value := (flatV (ps ++ List.replicate (n - ps.length) zV)).toArray
theorem rowC_next (ps : List Vl) (n : Nat) (h : ps.length < n) : (rowC ps n)[ps.length * 3]? = some (.int .i64 0) ∧ (rowC ps n)[ps.length * 3 + 1]? = some (.int .i64 0) ∧ (rowC ps n)[ps.length * 3 + 2]? = some (.string ⟨#[]⟩) := by
  have hg : (ps ++ List.replicate (n - ps.length) zV)[ps.length]? = some zV := by
    rw [List.getElem?_append_right (Nat.le_refl _), Nat.sub_self, List.getElem?_replicate, if_pos (by omega)]
  obtain ⟨h1, h2, h3⟩ := flatV_get _ _ _ hg
  unfold rowC
  simp only [List.getElem?_toArray]
  exact ⟨h1, h2, h3⟩
theorem set3 (a : List Value) (x y z x' y' z' : Value) (b : List Value) (i : Nat) (h : a.length = i) : (((a ++ x :: y :: z :: b).set i x').set (i + 1) y').set (i + 2) z' = a ++ x' :: y' :: z' :: b := by
  subst h
  rw [List.set_append_right _ _ (by omega), Nat.sub_self, List.set_cons_zero, List.set_append_right _ _ (by omega), show a.length + 1 - a.length = 1 by omega, List.set_append_right _ _ (by omega), show a.length + 2 - a.length = 2 by omega]
  rfl
theorem rowC_set (ps : List Vl) (n : Nat) (p : Vl) (h : ps.length < n) : (((rowC ps n).setIfInBounds (ps.length * 3) (.int .i64 p.1)).setIfInBounds (ps.length * 3 + 1) (.int .i64 p.2.1)).setIfInBounds (ps.length * 3 + 2) (.string p.2.2) = rowC (ps ++ [p]) n := by
  unfold rowC
  rw [List.setIfInBounds_toArray, List.setIfInBounds_toArray, List.setIfInBounds_toArray, flatV_append, flatV_append, flatV_append]
  have e : List.replicate (n - ps.length) zV = zV :: List.replicate (n - (ps ++ [p]).length) zV := by
    rw [show n - ps.length = (n - (ps ++ [p]).length) + 1 by rw [List.length_append]; simp; omega]
    rfl
  rw [e]
  show (List.set _ _ _).toArray = _
  have := set3 (flatV ps) (.int .i64 0) (.int .i64 0) (.string ⟨#[]⟩) (.int .i64 p.1) (.int .i64 p.2.1) (.string p.2.2) (flatV (List.replicate (n - (ps ++ [p]).length) zV)) (ps.length * 3) (flatV_len ps)
  show (List.set (List.set (List.set (flatV ps ++ (.int .i64 0 :: .int .i64 0 :: .string ⟨#[]⟩ :: flatV (List.replicate (n - (ps ++ [p]).length) zV))) _ _) _ _) _ _).toArray = _
  rw [this]
  show _ = (flatV ps ++ flatV [p] ++ _).toArray
  rw [List.append_assoc]
  rfl
theorem rdV_row {w : World} {g : Nat} {ps : List Vl} (h : Own w g 35 (rowC ps ps.length)) (hl : ps.length ≤ 9223372036854775807) : RdV w 0 w.heap.size (.slice (some ⟨g, 0, none⟩) ps.length ps.length) ps := by
  refine ⟨_, _, rfl, hl, fun k p hk => ⟨_, rfl, Nat.zero_le _, h.lt, ?_⟩⟩
  have h0 : rowC ps ps.length = (flatV ps).toArray := by unfold rowC; rw [Nat.sub_self]; simp
  rw [h0] at h
  obtain ⟨h1, h2, h3⟩ := flatV_get ps k p hk
  have ea : (⟨g, 0, none⟩ : Addr).add (k * 3) = ⟨g, k * 3, none⟩ := by unfold Addr.add; split <;> simp_all
  rw [ea]
  exact ⟨(h.cell _).trans (by simpa using h1), (h.cell _).trans (by simpa using h2), (h.cell _).trans (by simpa using h3)⟩
theorem rdV_nil (w : World) (L B : Nat) : RdV w L B (.slice none 0 0) [] := ⟨none, 0, rfl, by simp, fun k b h => by simp at h⟩
theorem infoV : (Try.prog.info? 35).map (fun i => (i.zero, i.size, i.bytes)) = some (some (.agg #[.int .i64 0, .int .i64 0, .string ⟨#[]⟩]), 3, 32) := by kernel_rfl
theorem RdV.of_own {w : World} {base : Nat} {v : Value} {ps : List Vl} (h : w.ownsRow base 35 3 v ps.length (flatV ps)) (hl : ps.length ≤ 9223372036854775807) : RdV w base w.heap.size v ps := by
  rcases h.2 with ⟨rfl, h0⟩ | ⟨g, cap, cur, rfl, hb, hh, hn, hc, hs, ht⟩
  · obtain rfl := List.eq_nil_of_length_eq_zero h0
    exact ⟨none, 0, rfl, by simp, fun k n hk => by simp at hk⟩
  · have hg : g < w.heap.size := by
      rcases Nat.lt_or_ge g w.heap.size with h1 | h1
      · exact h1
      · rw [Array.getElem?_eq_none h1] at hh; cases hh
    have he : ∀ i u, (flatV ps)[i]? = some u → w.cell? ⟨g, i, none⟩ = some u := fun i u hu => by
      rw [cell_of_row w g i cur _ _ hh, ← Array.getElem?_toList]
      rw [← ht, List.getElem?_take] at hu
      split at hu
      · exact hu
      · cases hu
    refine ⟨_, cap, rfl, hl, fun k p hk => ⟨_, rfl, hb, hg, ?_⟩⟩
    obtain ⟨h1, h2, h3⟩ := flatV_get ps k p hk
    have ea : (⟨g, 0, none⟩ : Addr).add (k * 3) = ⟨g, k * 3, none⟩ := by unfold Addr.add; split <;> simp_all
    rw [ea]
    exact ⟨he _ _ h1, he _ _ h2, he _ _ h3⟩
theorem append_val {ops : Array Oper} {rest : List Oper} {o : Oper} {a : Act} {Q : Exit → Act → World → Prop} (W : World) (hgd : o.guard = none) (s x : Operand)
    (ho : o.op = .call { callee := .builtin .append, args := #[s, x], argTypes := #[41, 41] }) (base : Nat) (v : Value) (l : List Vl) (hs : a.eval s = v)
    (hown : W.ownsRow base 35 3 v l.length (flatV l)) (ad : Addr) (m : List Vl) (c : Nat) (hx : a.eval x = .slice (some ad) m.length c)
    (hnew : ∀ j u, (flatV m)[j]? = some u → W.cell? (ad.add j) = some u) (hl : l.length + m.length ≤ 2199023255552) (hbase : base ≤ W.heap.size)
    (h : ∀ v' w', w'.ownsRow base 35 3 v' (l ++ m).length (flatV (l ++ m)) → Below base W w' → wpList Try.prog ops Q rest (a.put o.dst v') w') :
    wpList Try.prog ops Q (o :: rest) a W := by
  obtain ⟨i0, hi, hz0, hz1, hz2⟩ := info_partsB infoV
  refine wpList_append_own _ hgd s x 41 ho base 35 i0 (.agg #[.int .i64 0, .int .i64 0, .string ⟨#[]⟩]) 3 32 Try.underlying41 hi hz0 hz1 hz2 rfl (by decide) v l.length (flatV l) hs hown ad m.length c (flatV m) hx (by rw [flatV_len])
    hnew (fun u hu => ?_) (by unfold maxLen; omega) (by omega) hbase ?_
  · have hall : ∀ ps : List Vl, ∀ u ∈ flatV ps, u.oneCell' = true := by
      intro ps
      induction ps with
      | nil => intro u hu; cases hu
      | cons p t ih =>
        intro u hu
        have hu2 : u ∈ (.int .i64 p.1 :: .int .i64 p.2.1 :: .string p.2.2 :: flatV t : List Value) := hu
        simp only [List.mem_cons] at hu2
        rcases hu2 with rfl | rfl | rfl | hu2
        · rfl
        · rfl
        · rfl
        · exact ih u hu2
    exact hall m u hu
  · intro v' w' h1 h2 _
    exact h v' w' (by rw [flatV_append, List.length_append]; exact h1) ((Below.refl _ _).grown h2 hbase fun k hk => (hown.lt k hk).1)
theorem made0 : madeCells (Value.agg #[.int .i64 0, .int .i64 0, .string ⟨#[]⟩]).cells (0 * 3) = rowC [] 0 := by kernel_rfl
theorem made1 : madeCells (Value.agg #[.int .i64 0, .int .i64 0, .string ⟨#[]⟩]).cells (1 * 3) = rowC [] 1 := by kernel_rfl
theorem made2 : madeCells (Value.agg #[.int .i64 0, .int .i64 0, .string ⟨#[]⟩]).cells (2 * 3) = rowC [] 2 := by kernel_rfl
theorem made3 : madeCells (Value.agg #[.int .i64 0, .int .i64 0, .string ⟨#[]⟩]).cells (3 * 3) = rowC [] 3 := by kernel_rfl
theorem made4 : madeCells (Value.agg #[.int .i64 0, .int .i64 0, .string ⟨#[]⟩]).cells (4 * 3) = rowC [] 4 := by kernel_rfl
theorem made5 : madeCells (Value.agg #[.int .i64 0, .int .i64 0, .string ⟨#[]⟩]).cells (5 * 3) = rowC [] 5 := by kernel_rfl
theorem made6 : madeCells (Value.agg #[.int .i64 0, .int .i64 0, .string ⟨#[]⟩]).cells (6 * 3) = rowC [] 6 := by kernel_rfl
theorem made7 : madeCells (Value.agg #[.int .i64 0, .int .i64 0, .string ⟨#[]⟩]).cells (7 * 3) = rowC [] 7 := by kernel_rfl
theorem made8 : madeCells (Value.agg #[.int .i64 0, .int .i64 0, .string ⟨#[]⟩]).cells (8 * 3) = rowC [] 8 := by kernel_rfl
theorem made9 : madeCells (Value.agg #[.int .i64 0, .int .i64 0, .string ⟨#[]⟩]).cells (9 * 3) = rowC [] 9 := by kernel_rfl
theorem made10 : madeCells (Value.agg #[.int .i64 0, .int .i64 0, .string ⟨#[]⟩]).cells (10 * 3) = rowC [] 10 := by kernel_rfl
theorem made11 : madeCells (Value.agg #[.int .i64 0, .int .i64 0, .string ⟨#[]⟩]).cells (11 * 3) = rowC [] 11 := by kernel_rfl
theorem made12 : madeCells (Value.agg #[.int .i64 0, .int .i64 0, .string ⟨#[]⟩]).cells (12 * 3) = rowC [] 12 := by kernel_rfl
theorem made_row (W : World) (g : Nat) (hg : g = W.heap.size) (n : Nat) (hn : n ≤ 12) (N : Int) (hN : N = (n : Nat)) :
    (Instr.makeSlice 41 (.int .i64 N) (.int .i64 N)).run Try.prog W = .ok (.slice (some ⟨g, 0, none⟩) n n) (W.alloc (.cells (rowC [] n) 35)) := by
  subst hg hN
  obtain ⟨i0, hi, hz0, hz1, hz2⟩ := info_partsB infoV
  have h := run_makeSlice (P := Try.prog) (w := W) 41 35 i0 (.agg #[.int .i64 0, .int .i64 0, .string ⟨#[]⟩]) Try.underlying41 hi hz0 .i64 .i64 (n : Int) (n : Int) (by omega) (Int.le_refl _) (by rw [hz1, Int.toNat_natCast]; omega) (by rw [hz2]; omega) (by omega)
  rw [h, Int.toNat_natCast, hz1]
  have hr : madeCells (Value.agg #[.int .i64 0, .int .i64 0, .string ⟨#[]⟩]).cells (n * 3) = rowC [] n := by
    have h12 : n = 0 ∨ n = 1 ∨ n = 2 ∨ n = 3 ∨ n = 4 ∨ n = 5 ∨ n = 6 ∨ n = 7 ∨ n = 8 ∨ n = 9 ∨ n = 10 ∨ n = 11 ∨ n = 12 := by omega
    rcases h12 with rfl | rfl | rfl | rfl | rfl | rfl | rfl | rfl | rfl | rfl | rfl | rfl | rfl
    · exact made0
    · exact made1
    · exact made2
    · exact made3
    · exact made4
    · exact made5
    · exact made6
    · exact made7
    · exact made8
    · exact made9
    · exact made10
    · exact made11
    · exact made12
  rw [hr]
/-- n values read from the k-th byte on: the error, the values, where the next begins. -/
def readR (l : List UInt8) : Nat → Nat → Nat × List Vl × Nat
  | k, 0 => (0, [], k)
  | k, n + 1 => if (valF l k).1 = 0 then (if (readR l (valF l k).2.2 n).1 = 0 then (0, (valF l k).2.1 :: (readR l (valF l k).2.2 n).2.1, (readR l (valF l k).2.2 n).2.2) else ((readR l (valF l k).2.2 n).1, [], 0)) else ((valF l k).1, [], 0)
def comb (ps : List Vl) (y : Nat × List Vl × Nat) : Nat × List Vl × Nat := if y.1 = 0 then (0, ps ++ y.2.1, y.2.2) else (y.1, [], 0)
theorem readR_err (l : List UInt8) : ∀ (n k : Nat), (readR l k n).1 ≠ 0 → readR l k n = ((readR l k n).1, [], 0) := by
  intro n
  cases n with
  | zero => intro k h; exact absurd rfl h
  | succ n =>
    intro k h
    unfold readR at h ⊢
    split
    · split
      · rename_i h1 h2
        rw [if_pos h1, if_pos h2] at h
        exact absurd rfl h
      · rfl
    · rfl
theorem comb_nil (l : List UInt8) (k n : Nat) : comb [] (readR l k n) = readR l k n := by
  unfold comb
  by_cases h : (readR l k n).1 = 0
  · rw [if_pos h, List.nil_append, ← h]
  · rw [if_neg h]; exact (readR_err l n k h).symm
theorem comb_step (l : List UInt8) (ps : List Vl) (k n : Nat) (e : Nat) (p : Vl) (k2 : Nat) (hX : valF l k = (e, p, k2)) : comb ps (readR l k (n + 1)) = if e = 0 then comb (ps ++ [p]) (readR l k2 n) else (e, [], 0) := by
  rw [readR, hX]
  dsimp only
  by_cases he : e = 0
  · rw [if_pos he, if_pos he]
    unfold comb
    by_cases h : (readR l k2 n).1 = 0
    · rw [if_pos h, if_pos rfl, if_pos h]
      simp
    · rw [if_neg h, if_neg h]
      dsimp only
      rw [if_neg h]
  · rw [if_neg he, if_neg he]
    unfold comb
    dsimp only
    rw [if_neg he]
theorem comb_zero (l : List UInt8) (ps : List Vl) (k : Nat) : comb ps (readR l k 0) = (0, ps, k) := by
  rw [readR]; unfold comb; rw [if_pos rfl, List.append_nil]
/-- What Row answers. -/
def rowF (l : List UInt8) (i : Int) : Nat × List Vl × Nat :=
  if (intF l i).1 = 0 then if (intF l i).2.1 < 0 then (1, [], 0) else if (intF l i).2.1 > 12 then (5, [], 0) else readR l (intF l i).2.2 (intF l i).2.1.toNat else ((intF l i).1, [], 0)
def RetW (w : World) (x : Nat × List Vl × Nat) (e : Ending) (w' : World) : Prop := ∃ u, e = .returned (.tuple #[u, .int .i64 (x.2.2 : Nat), .int .i64 (x.1 : Nat)]) ∧ RdV w' 0 w'.heap.size u x.2.1 ∧ Below w.heap.size w w'
theorem lit_cells (W : World) (g : Nat) (hg : g = W.heap.size) (k n : Int) (s : ByteArray) : ∀ j u, (flatV [(k, n, s)])[j]? = some u → (W.alloc (.cells #[.int .i64 k, .int .i64 n, .string s] 35)).cell? ((⟨g, 0, none⟩ : Addr).add j) = some u := by
  subst hg
  intro j u hu
  rw [cell_add0, (Own.new W 35 #[.int .i64 k, .int .i64 n, .string s]).cell j]
  simpa [flatV] using hu
set_option maxRecDepth 100000 in
set_option maxHeartbeats 6400000 in
theorem pRow_any (v : Value) (l : List UInt8) (i : Int) (w : World) (L : Nat) (hv : RdB w L w.heap.size v l) :
    Calls Try.prog 26 #[v, .int .i64 i] w (RetW w (rowF l i)) := by
  have h1 := pInt_any v l i w L hv
  have HVL := Lib.hid (fun (k : Nat) W (h : Below w.heap.size w W) => pVal_any v l k W L (hv.step h (Nat.le_refl _)))
  obtain ⟨A, c, rfl, hl63, _, _⟩ := hv
  rcases hX : intF l i with ⟨e1, n1, k1⟩
  rw [hX] at h1
  dsimp only at h1
  unfold RetW
  by_cases he1 : e1 = 0
  · subst he1
    by_cases c1 : n1 < 0
    · have HF := Lib.hid (show rowF l i = (1, [], 0) by unfold rowF; rw [hX]; dsimp only; rw [if_pos rfl, if_pos c1])
      clear hX HVL
      go_enter Try.func26, Try.ntmps26
      go_wp2_with fail
      with_reducible refine h1.mono ?_
      rintro e w1 ⟨rfl, hb1⟩
      clear h1
      go_wp2_with fail
      go_ret3
      exact ⟨_, by rw [HF.out]; rfl, by rw [HF.out]; exact rdV_nil _ _ _, hb1⟩
    · by_cases c2 : n1 > 12
      · have HF := Lib.hid (show rowF l i = (5, [], 0) by unfold rowF; rw [hX]; dsimp only; rw [if_pos rfl, if_neg c1, if_pos c2])
        clear hX HVL
        go_enter Try.func26, Try.ntmps26
        go_wp2_with fail
        with_reducible refine h1.mono ?_
        rintro e w1 ⟨rfl, hb1⟩
        clear h1
        go_wp2_with fail
        go_ret3
        exact ⟨_, by rw [HF.out]; rfl, by rw [HF.out]; exact rdV_nil _ _ _, hb1⟩
      · obtain ⟨n, rfl⟩ := Int.eq_ofNat_of_zero_le (show 0 ≤ n1 by omega)
        have HF := Lib.hid (show rowF l i = comb [] (readR l k1 n) by unfold rowF; rw [hX, comb_nil]; dsimp only; rw [if_pos rfl, if_neg c1, if_neg c2, Int.toNat_natCast])
        have hn12 : n ≤ 12 := by omega
        clear hX
        go_enter Try.func26, Try.ntmps26
        go_wp2_with fail
        with_reducible refine h1.mono ?_
        rintro e w1 ⟨rfl, hb1⟩
        clear h1
        have hmk := made_row w1 w1.heap.size rfl n hn12 (n : Nat) rfl
        have b2 := bel_mark w1 (.cells (rowC [] n) 35)
        have B2 := hb1.trans (b2.mono hb1.size)
        have o2 := Own.new w1 35 (rowC [] n)
        have hgl : w1.heap.size < (w1.alloc (.cells (rowC [] n) 35)).heap.size := by simp
        generalize hgg : w1.heap.size = g at *
        have HB2 := Lib.hid B2
        have HO2 := Lib.hid o2
        clear b2 B2 o2 hgl
        go_wp2_with fail
        clear hmk
        go_loopw [1, 8, 32] (fun k er j wr => ∃ (ps : List Vl) (kk : Nat), ps.length ≤ n ∧ j = .int .i64 (ps.length : Nat) ∧ k = .int .i64 (kk : Nat) ∧ er = .int .i64 0 ∧ Hid (Own wr g 35 (rowC ps n)) ∧ Hid (rowF l i = comb ps (readR l kk (n - ps.length))) ∧ Below w.heap.size w wr ∧ w.heap.size ≤ g) (fun _ _ j _ => n - (intOf j).toNat)
        case atStart => exact ⟨[], k1, Nat.zero_le _, rfl, rfl, rfl, Lib.hid HO2.out, Lib.hid HF.out, HB2.out, by rw [← hgg]; exact hb1.size⟩
        case round =>
          obtain ⟨ps, kk, hpl, rfl, rfl, rfl, HO, HC, hbr, hwg⟩ := hrel
          have hcl := HVL.out kk wr hbr
          by_cases hlt : ps.length < n
          · have hlti : (ps.length : Int) < n := by omega
            rcases hY : valF l kk with ⟨e2, ⟨xk, xn, xs⟩, k2⟩
            rw [hY] at hcl
            unfold valR valV at hcl
            dsimp only at hcl
            have hst := comb_step l ps kk (n - (ps.length + 1)) e2 (xk, xn, xs) k2 hY
            rw [show n - (ps.length + 1) + 1 = n - ps.length by omega, ← HC.out] at hst
            have HST := Lib.hid hst
            obtain ⟨z0, z1, z2⟩ := rowC_next ps n hlt
            have HRS := Lib.hid (rowC_set ps n (xk, xn, xs) hlt)
            clear hY hst
            by_cases he2 : e2 = 0
            · subst he2
              have HST2 := Lib.hid (show rowF l i = comb (ps ++ [(xk, xn, xs)]) (readR l k2 (n - (ps.length + 1))) by rw [HST.out, if_pos rfl])
              clear HST
              go_wp2_with fail
              with_reducible refine hcl.mono ?_
              rintro e w2 ⟨rfl, hb2⟩
              clear hcl
              have o3 := HO.out.below hb2 HO.out.lt
              have B3 := hbr.trans (hb2.mono hbr.size)
              have d0 := (o3.cell (ps.length * 3)).trans z0
              have d1 := (o3.cell (ps.length * 3 + 1)).trans z1
              have d2 := (o3.cell (ps.length * 3 + 2)).trans z2
              have e0 := o3.free (ps.length * 3)
              have e1 := o3.free (ps.length * 3 + 1)
              have e2 := o3.free (ps.length * 3 + 2)
              have o4 := ((o3.store (ps.length * 3) (.int .i64 xk)).store (ps.length * 3 + 1) (.int .i64 xn)).store (ps.length * 3 + 2) (.string xs)
              rw [HRS.out] at o4
              have HO4 := Lib.hid o4
              have HBX := Lib.hid (((B3.setCell (p := ⟨g, ps.length * 3, none⟩) hwg (.int .i64 xk)).setCell (p := ⟨g, ps.length * 3 + 1, none⟩) hwg (.int .i64 xn)).setCell (p := ⟨g, ps.length * 3 + 2, none⟩) hwg (.string xs))
              clear o3 o4 z0 z1 z2 HO HRS
              go_wp2
              go_roundw
              case rel => exact ⟨ps ++ [(xk, xn, xs)], k2, by rw [List.length_append]; simp; omega, by rw [List.length_append]; first | rfl | go_num, rfl, by first | rfl | go_num, HO4, Lib.hid (by rw [HST2.out, List.length_append]; rfl), HBX.out, hwg⟩
              case measure => simp [intOf]; omega
            · have he2i : ¬ (e2 : Int) = 0 := by omega
              have HF2 := Lib.hid (HST.out.trans (if_neg he2))
              go_wp2_with fail
              with_reducible refine hcl.mono ?_
              rintro e w2 ⟨rfl, hb2⟩
              clear hcl
              have o3 := HO.out.below hb2 HO.out.lt
              have B3 := hbr.trans (hb2.mono hbr.size)
              have d0 := (o3.cell (ps.length * 3)).trans z0
              have d1 := (o3.cell (ps.length * 3 + 1)).trans z1
              have d2 := (o3.cell (ps.length * 3 + 2)).trans z2
              have e0 := o3.free (ps.length * 3)
              have e1 := o3.free (ps.length * 3 + 1)
              have e2 := o3.free (ps.length * 3 + 2)
              have HBX := Lib.hid (((B3.setCell (p := ⟨g, ps.length * 3, none⟩) hwg (.int .i64 xk)).setCell (p := ⟨g, ps.length * 3 + 1, none⟩) hwg (.int .i64 xn)).setCell (p := ⟨g, ps.length * 3 + 2, none⟩) hwg (.string xs))
              clear o3 z0 z1 z2 HO HRS HST he2
              go_wp2
              go_ret3
              exact ⟨_, by rw [HF2.out]; rfl, by rw [HF2.out]; exact rdV_nil _ _ _, HBX.out⟩
          · have hpn : ps.length = n := by omega
            have HF2 := Lib.hid (show rowF l i = (0, ps, kk) by rw [HC.out, show n - ps.length = 0 by omega, comb_zero])
            clear hcl hlt
            subst hpn
            go_wp2
            go_ret3
            exact ⟨_, by rw [HF2.out]; rfl, by rw [HF2.out]; exact rdV_row HO.out (by omega), hbr⟩
  · have HF := Lib.hid (show rowF l i = (e1, [], 0) by unfold rowF; rw [hX]; dsimp only; rw [if_neg he1])
    have he1i : ¬ (e1 : Int) = 0 := by omega
    clear hX HVL
    go_enter Try.func26, Try.ntmps26
    go_wp2_with fail
    with_reducible refine h1.mono ?_
    rintro e w1 ⟨rfl, hb1⟩
    clear h1
    go_wp2_with fail
    go_ret3
    exact ⟨_, by rw [HF.out]; rfl, by rw [HF.out]; exact rdV_nil _ _ _, hb1⟩
set_option maxRecDepth 100000 in
set_option maxHeartbeats 6400000 in
theorem rRow_any (v : Value) (l : List UInt8) (i : Int) (w : World) (L : Nat) (hv : RdB w L w.heap.size v l) :
    Calls Try.prog 27 #[v, .int .i64 i] w (RetW w (rowF l i)) := by
  have h1 := rInt_any v l i w L hv
  have HVL := Lib.hid (fun (k : Nat) W (h : Below w.heap.size w W) => rVal_any v l k W L (hv.step h (Nat.le_refl _)))
  obtain ⟨A, c, rfl, hl63, _, _⟩ := hv
  rcases hX : intF l i with ⟨e1, n1, k1⟩
  rw [hX] at h1
  dsimp only at h1
  unfold RetW
  by_cases he1 : e1 = 0
  · subst he1
    by_cases c1 : n1 < 0
    · have HF := Lib.hid (show rowF l i = (1, [], 0) by unfold rowF; rw [hX]; dsimp only; rw [if_pos rfl, if_pos c1])
      clear hX HVL
      go_enter Try.func27, Try.ntmps27
      go_wp2_with fail
      with_reducible refine h1.mono ?_
      rintro e w1 ⟨rfl, hb1⟩
      clear h1
      go_wp2_with fail
      go_ret3
      exact ⟨_, by rw [HF.out]; rfl, by rw [HF.out]; exact rdV_nil _ _ _, hb1⟩
    · by_cases c2 : n1 > 12
      · have HF := Lib.hid (show rowF l i = (5, [], 0) by unfold rowF; rw [hX]; dsimp only; rw [if_pos rfl, if_neg c1, if_pos c2])
        clear hX HVL
        go_enter Try.func27, Try.ntmps27
        go_wp2_with fail
        with_reducible refine h1.mono ?_
        rintro e w1 ⟨rfl, hb1⟩
        clear h1
        go_wp2_with fail
        go_ret3
        exact ⟨_, by rw [HF.out]; rfl, by rw [HF.out]; exact rdV_nil _ _ _, hb1⟩
      · obtain ⟨n, rfl⟩ := Int.eq_ofNat_of_zero_le (show 0 ≤ n1 by omega)
        have HF := Lib.hid (show rowF l i = comb [] (readR l k1 n) by unfold rowF; rw [hX, comb_nil]; dsimp only; rw [if_pos rfl, if_neg c1, if_neg c2, Int.toNat_natCast])
        have hn12 : n ≤ 12 := by omega
        clear hX
        go_enter Try.func27, Try.ntmps27
        go_wp2_with fail
        with_reducible refine h1.mono ?_
        rintro e w1 ⟨rfl, hb1⟩
        clear h1
        go_wp2_with fail
        go_loopw [8, 10, 11] (fun k out j wr => ∃ (ps : List Vl) (kk : Nat), ps.length ≤ n ∧ j = .int .i64 (ps.length : Nat) ∧ k = .int .i64 (kk : Nat) ∧ Hid (wr.ownsRow w.heap.size 35 3 out ps.length (flatV ps)) ∧ Hid (rowF l i = comb ps (readR l kk (n - ps.length))) ∧ Below w.heap.size w wr) (fun _ _ j _ => n - (intOf j).toNat)
        case atStart => exact ⟨[], k1, Nat.zero_le _, rfl, rfl, Lib.hid (World.ownsRow_nil _ _ _ 3), Lib.hid HF.out, hb1⟩
        case round =>
          obtain ⟨ps, kk, hpl, rfl, rfl, HO, HC, hbr⟩ := hrel
          have hcl := HVL.out kk wr hbr
          have hbz := hbr.size
          by_cases hlt : ps.length < n
          · have hlti : (ps.length : Int) < n := by omega
            rcases hY : valF l kk with ⟨e2, ⟨xk, xn, xs⟩, k2⟩
            rw [hY] at hcl
            unfold valR valV at hcl
            dsimp only at hcl
            have hst := comb_step l ps kk (n - (ps.length + 1)) e2 (xk, xn, xs) k2 hY
            rw [show n - (ps.length + 1) + 1 = n - ps.length by omega, ← HC.out] at hst
            have HST := Lib.hid hst
            clear hY hst
            by_cases he2 : e2 = 0
            · subst he2
              have HST2 := Lib.hid (show rowF l i = comb (ps ++ [(xk, xn, xs)]) (readR l k2 (n - (ps.length + 1))) by rw [HST.out, if_pos rfl])
              clear HST
              go_wp2_with fail
              with_reducible refine hcl.mono ?_
              rintro e w2 ⟨rfl, hb2⟩
              clear hcl
              have b3 := bel_mark w2 (.cells #[.int .i64 xk, .int .i64 xn, .string xs] 35)
              have b4 := bel_mark (w2.alloc (.cells #[.int .i64 xk, .int .i64 xn, .string xs] 35)) (.cells #[.int .i64 xk, .int .i64 xn, .string xs] 35)
              have HAL := Lib.hid (own_below (own_below (own_below HO.out hb2) b3) b4)
              have z2 := Nat.le_trans hbz hb2.size
              have z3 := Nat.le_trans z2 b3.size
              have HBB := Lib.hid (((hbr.trans (hb2.mono hbz)).trans (b3.mono z2)).trans (b4.mono z3))
              have HNEW := Lib.hid (lit_cells (w2.alloc (.cells #[.int .i64 xk, .int .i64 xn, .string xs] 35)) (w2.heap.size + 1) (by simp) xk xn xs)
              have hzb := Nat.le_trans z3 b4.size
              clear b3 b4
              go_wp2_with (at_builtin; refine append_val _ rfl _ _ rfl w.heap.size _ ps rfl HAL.out ⟨w2.heap.size + 1, 0, none⟩ [(xk, xn, xs)] 1 rfl HNEW.out (by simp; omega) hzb ?_; intro v4 w4 ho4 hb4)
              go_round
              case rel => exact ⟨ps ++ [(xk, xn, xs)], k2, by rw [List.length_append]; simp; omega, by rw [List.length_append]; first | rfl | go_num, by first | rfl | go_num, Lib.hid ho4, Lib.hid (by rw [HST2.out, List.length_append]; rfl), HBB.out.trans hb4⟩
              case measure => simp [intOf]; omega
            · have he2i : ¬ (e2 : Int) = 0 := by omega
              have HF2 := Lib.hid (HST.out.trans (if_neg he2))
              go_wp2_with fail
              with_reducible refine hcl.mono ?_
              rintro e w2 ⟨rfl, hb2⟩
              clear hcl
              have b3 := bel_mark w2 (.cells #[.int .i64 xk, .int .i64 xn, .string xs] 35)
              have HBB := Lib.hid ((hbr.trans (hb2.mono hbz)).trans (b3.mono (Nat.le_trans hbz hb2.size)))
              clear b3 HST
              go_wp2
              go_ret3
              exact ⟨_, by rw [HF2.out]; rfl, by rw [HF2.out]; exact rdV_nil _ _ _, HBB.out⟩
          · have hpn : ps.length = n := by omega
            have HF2 := Lib.hid (show rowF l i = (0, ps, kk) by rw [HC.out, show n - ps.length = 0 by omega, comb_zero])
            clear hcl hlt
            subst hpn
            have hge : ¬ ((ps.length : Int) < ps.length) := by omega
            go_wp2
            go_ret3
            exact ⟨_, by rw [HF2.out]; rfl, by rw [HF2.out]; exact (RdV.of_own HO.out (by omega)).more (Nat.le_refl _) (Nat.zero_le _), hbr⟩
  · have HF := Lib.hid (show rowF l i = (e1, [], 0) by unfold rowF; rw [hX]; dsimp only; rw [if_neg he1])
    have he1i : ¬ (e1 : Int) = 0 := by omega
    clear hX HVL
    go_enter Try.func27, Try.ntmps27
    go_wp2_with fail
    with_reducible refine h1.mono ?_
    rintro e w1 ⟨rfl, hb1⟩
    clear h1
    go_wp2_with fail
    go_ret3
    exact ⟨_, by rw [HF.out]; rfl, by rw [HF.out]; exact rdV_nil _ _ _, hb1⟩
theorem neq_self (k n : Int) (s : ByteArray) (w : World) : (binOp .neq 35 (.agg #[.int .i64 k, .int .i64 n, .string s]) (.agg #[.int .i64 k, .int .i64 n, .string s])).run Try.prog w = .ok (.bool false) w := by
  rw [run_neq_struct, run_equalIn_struct w 9999 35 _ _ (by kernel_rfl) (by kernel_rfl)]
  simp [Program.fieldsOf, Op.eqFields, Try.underlying35, Try.underlying3, Try.underlying9, part, isAgg, go_sem]
set_option maxRecDepth 100000 in
set_option maxHeartbeats 3200000 in
theorem rows_any (u v : Value) (ps : List Vl) (w : World) (L L2 : Nat) (hu : RdV w L w.heap.size u ps) (hv : RdV w L2 w.heap.size v ps) :
    Calls Try.prog 28 #[u, v] w fun e w' => e = .returned (.bool true) ∧ Below w.heap.size w w' := by
  obtain ⟨A, c, rfl, hl1, hc1⟩ := hu
  obtain ⟨A2, c2, rfl, hl2, hc2⟩ := hv
  have HC := Lib.hid hc1
  have HC2 := Lib.hid hc2
  clear hc1 hc2
  go_enter Try.func28, Try.ntmps28
  go_wp2
  go_loopw [13] (fun i wr => ∃ k : Nat, k ≤ ps.length ∧ i = .int .i64 k ∧ Below w.heap.size w wr) (fun i _ => ps.length - (intOf i).toNat)
  case atStart => exact ⟨0, Nat.zero_le _, rfl, Below.refl _ _⟩
  case round =>
    obtain ⟨k, hk, rfl, hbr⟩ := hrel
    have hbz := hbr.size
    by_cases hlt : k < ps.length
    · have hki : (k : Int) < ps.length := by omega
      obtain ⟨ad, rfl, _, hab, c0, c1, c2⟩ := HC.out k _ (List.getElem?_eq_getElem hlt)
      obtain ⟨ad2, rfl, _, hab2, b0, b1, b2⟩ := HC2.out k _ (List.getElem?_eq_getElem hlt)
      generalize ps[k] = p at *
      obtain ⟨kd, n, s⟩ := p
      dsimp only at c0 c1 c2 b0 b1 b2
      have q := fun W => neq_self kd n s W
      have x0 : (ad.add (k * 3)).block < wr.heap.size := by rw [add_block]; omega
      have x2 : (ad2.add (k * 3)).block < wr.heap.size := by rw [add_block]; omega
      have f0 := fun p : After wr => after_cell (a := ad.add (k * 3)) x0 ((hbr.cell (p := ad.add (k * 3)) (by rw [add_block]; exact hab)).trans c0) p
      have f1 := fun p : After wr => after_cell (a := ⟨(ad.add (k * 3)).block, (ad.add (k * 3)).off + 1, none⟩) x0 ((hbr.cell (p := ⟨(ad.add (k * 3)).block, (ad.add (k * 3)).off + 1, none⟩) (by show (ad.add (k * 3)).block < _; rw [add_block]; exact hab)).trans c1) p
      have f2 := fun p : After wr => after_cell (a := ⟨(ad.add (k * 3)).block, (ad.add (k * 3)).off + 2, none⟩) x0 ((hbr.cell (p := ⟨(ad.add (k * 3)).block, (ad.add (k * 3)).off + 2, none⟩) (by show (ad.add (k * 3)).block < _; rw [add_block]; exact hab)).trans c2) p
      have f3 := fun p : After wr => after_cell (a := ad2.add (k * 3)) x2 ((hbr.cell (p := ad2.add (k * 3)) (by rw [add_block]; exact hab2)).trans b0) p
      have f4 := fun p : After wr => after_cell (a := ⟨(ad2.add (k * 3)).block, (ad2.add (k * 3)).off + 1, none⟩) x2 ((hbr.cell (p := ⟨(ad2.add (k * 3)).block, (ad2.add (k * 3)).off + 1, none⟩) (by show (ad2.add (k * 3)).block < _; rw [add_block]; exact hab2)).trans b1) p
      have f5 := fun p : After wr => after_cell (a := ⟨(ad2.add (k * 3)).block, (ad2.add (k * 3)).off + 2, none⟩) x2 ((hbr.cell (p := ⟨(ad2.add (k * 3)).block, (ad2.add (k * 3)).off + 2, none⟩) (by show (ad2.add (k * 3)).block < _; rw [add_block]; exact hab2)).trans b2) p
      clear c0 c1 c2 b0 b1 b2
      have HBR := Lib.hid hbr
      clear hbr
      go_wp2_with fail
      (refine wp_region_after (by kernel_rfl) (by kernel_rfl) ?_; (repeat (go_big_quiet_step (fail))); refine wpQuiet_nil ?_; intro wq hw0; obtain ⟨⟨wq0, hbq⟩, hw1⟩ := hw0; subst hw1; (try dsimp only))
      clear f0 f1 f2 f3 f4 f5 q
      go_wp2
      go_roundw
      case rel => exact ⟨k + 1, by omega, by go_num, HBR.out.trans (hbq.mono HBR.out.size)⟩
      case measure => simp [intOf]; omega
    · have hki : ¬ (k : Int) < ps.length := by omega
      go_wp2
      go_ret
      exact ⟨rfl, hbr⟩
end Go.Proofs.Ytomiegfblhhhpaa
