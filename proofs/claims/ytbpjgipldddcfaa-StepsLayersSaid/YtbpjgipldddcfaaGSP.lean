import Derived.Test.YtbpjgipldddcfaaGA1
import Derived.Test.YtbpjgipldddcfaaGIn
import Derived.WalkKit
import Derived.WalkSpells
import Derived.WalkLawsBesides
import Derived.Deep.QuietTactic
import Derived.BigQuiet
import Derived.Handy
import Derived.Lib.Hide
/-
  Contracts of put (of the reference) and of changed and constant (of the program): a step is appended to a row of the caller's own, unless the value stays. Conditions: at most a million steps; for changed, the last step lies elsewhere.
-/
namespace Go.Proofs.Ytbpjgipldddcfaa
set_option maxRecDepth 100000
set_option linter.unusedVariables false
set_option linter.unusedSimpArgs false
open Go.RowKit

theorem infoStp : (Try.prog.info? 37).map (fun i => (i.zero, i.size, i.bytes)) = some (some (.agg #[.int .i64 0, .int .i64 0]), 2, 16) := by kernel_rfl
theorem append_stp {ops : Array Oper} {rest : List Oper} {o : Oper} {a : Act} {Q : Exit → Act → World → Prop} (W : World) (hgd : o.guard = none) (s x : Operand)
    (ho : o.op = .call { callee := .builtin .append, args := #[s, x], argTypes := #[22, 22] }) (base : Nat) (v : Value) (l : List (Int × Int)) (hs : a.eval s = v)
    (hown : W.ownsRow base 37 2 v l.length (flatP l)) (ad : Addr) (c d : Int) (hx : a.eval x = .slice (some ad) 1 1)
    (hnew : ∀ j u, [Value.int .i64 c, Value.int .i64 d][j]? = some u → W.cell? (ad.add j) = some u) (hl : l.length ≤ 1000000000) (hbase : base ≤ W.heap.size)
    (h : ∀ v' w', w'.ownsRow base 37 2 v' (l ++ [(c, d)]).length (flatP (l ++ [(c, d)])) → Below base W w' → wpList Try.prog ops Q rest (a.put o.dst v') w') :
    wpList Try.prog ops Q (o :: rest) a W := by
  obtain ⟨i0, hi, hz0, hz1, hz2⟩ := info_parts infoStp
  refine wpList_append_own _ hgd s x 22 ho base 37 i0 (.agg #[.int .i64 0, .int .i64 0]) 2 16 Try.underlying22 hi hz0 hz1 hz2 rfl (by decide) v l.length (flatP l) hs hown ad 1 1 [.int .i64 c, .int .i64 d] hx rfl
    hnew (fun u hu => by simp at hu; rcases hu with rfl | rfl <;> rfl) (by unfold maxLen; omega) (by omega) hbase ?_
  intro v' w' h1 h2 _
  refine h v' w' (by rw [flatP_snoc, List.length_append]; exact h1) ((Below.refl _ _).grown h2 hbase fun k hk => (hown.lt k hk).1)
theorem RdP.of_ownS {w : World} {base : Nat} {v : Value} {l : List (Int × Int)} (h : w.ownsRow base 37 2 v l.length (flatP l)) (hl : l.length ≤ 9223372036854775807) : RdP w base w.heap.size v l := by
  rcases own_get h with ⟨rfl, h0⟩ | ⟨g, c, rfl, hb, hg, hnc, hc⟩
  · obtain rfl := List.eq_nil_of_length_eq_zero h0
    exact RdP.nil _ _ _ _ _
  · refine ⟨_, c, rfl, hl, hnc, fun k p hk => ⟨_, rfl, hb, hg, ?_⟩⟩
    obtain ⟨h1, h2⟩ := flatP_get l k p hk
    rw [plain_add]
    exact ⟨hc _ _ h1, hc _ _ h2⟩
theorem own_nilT (W : World) (base : Nat) : W.ownsRow base 37 2 (.slice none 0 0) ([] : List (Int × Int)).length (flatP []) := World.ownsRow_nil W base _ 2
/-- A step from t on with the value n, unless the value is n already. -/
def putL (l : List (Int × Int)) (t n : Int) : List (Int × Int) := match l.getLast? with
  | some q => if q.2 = n then l else l ++ [(t, n)]
  | none => [(t, n)]
theorem putL_nil (t n : Int) : putL [] t n = [] ++ [(t, n)] := rfl
theorem putL_same {m : List (Int × Int)} {x y n : Int} (t : Int) (h : y = n) : putL (m ++ [(x, y)]) t n = m ++ [(x, y)] := by
  unfold putL; rw [show (m ++ [(x, y)]).getLast? = some (x, y) by simp]; dsimp only; rw [if_pos h]
theorem putL_new {m : List (Int × Int)} {x y n : Int} (t : Int) (h : ¬ y = n) : putL (m ++ [(x, y)]) t n = m ++ [(x, y)] ++ [(t, n)] := by
  unfold putL; rw [show (m ++ [(x, y)]).getLast? = some (x, y) by simp]; dsimp only; rw [if_neg h]
theorem putL_nrm (f : Int → Int) {P : List Int} (hP : P ≠ []) (t : Int) : nrmV f (P ++ [t]) = putL (nrmV f P) t (f t) := by
  rw [nrmV_snoc f hP t]
  rcases List.eq_nil_or_concat (nrmV f P) with h | ⟨m, q, h⟩
  · match P, hP with
    | p :: P, _ => simp [nrmV] at h
  · rw [h, List.concat_eq_append, lstV_snoc]
    obtain ⟨x, y⟩ := q
    dsimp only
    by_cases hy : f t = y
    · rw [if_pos hy, putL_same t hy.symm, List.append_nil]
    · rw [if_neg hy, putL_new t (fun h => hy h.symm)]
theorem putL_one (f : Int → Int) (t : Int) : nrmV f [t] = putL [] t (f t) := rfl
theorem putL_len (l : List (Int × Int)) (t n : Int) : (putL l t n).length ≤ l.length + 1 := by
  unfold putL
  cases h : l.getLast? with
  | none => simp
  | some q => dsimp only; split <;> simp

set_option maxRecDepth 100000 in
set_option maxHeartbeats 3200000 in
theorem changed_any (v : Value) (l : List (Int × Int)) (t n : Int) (w : World) (base : Nat) (hown : w.ownsRow base 37 2 v l.length (flatP l)) (hbase : base ≤ w.heap.size) (hlen : l.length ≤ 1000000) (hlast : ∀ p, l.getLast? = some p → p.1 ≠ t) :
    Calls Try.prog 53 #[v, .int .i64 t, .int .i64 n] w fun e w' => ∃ v', e = .returned v' ∧ w'.ownsRow base 37 2 v' (putL l t n).length (flatP (putL l t n)) ∧ Below base w w' := by
  have HO := Lib.hid hown
  rcases List.eq_nil_or_concat l with rfl | ⟨m, q, rfl⟩
  · have hE := Lib.hid (putL_nil t n)
    rcases own_get hown with ⟨rfl, _⟩ | ⟨g, c, rfl, hbg, hg, _, _⟩
    all_goals
      clear hown
      go_enter Try.func53, Try.ntmps53
      go_wp2_with (at_builtin; refine append_stp _ rfl _ _ rfl base _ [] rfl (World.ownsRow.alloc HO.out _) ⟨w.heap.size, 0, none⟩ t n rfl (cell_two_new _ _ _ _) ?_ ?_ ?_; (focus (first | (simp; done) | (simp; omega))); (focus go_size); intro v1 w1 hown1 hb1)
      go_ret
      exact ⟨_, rfl, by rw [hE.out]; exact hown1, ((Below.refl _ _).alloc hbase _).trans hb1⟩
  · rw [List.concat_eq_append] at *
    obtain ⟨x, y⟩ := q
    rcases own_get hown with ⟨_, h0⟩ | ⟨g, c, rfl, hbg, hg, hnc, hcell⟩
    · simp at h0
    · have hml : (m ++ [(x, y)]).length = m.length + 1 := by simp
      obtain ⟨k0, k1⟩ := flatP_get (m ++ [(x, y)]) m.length (x, y) (by simp)
      have d0 := hcell _ _ k0
      have d1 := hcell _ _ k1
      dsimp only at d0 d1
      have HO2 : Hid (w.ownsRow base 37 2 (.slice (some ⟨g, 0, none⟩) (m.length + 1) c) (m ++ [(x, y)]).length (flatP (m ++ [(x, y)]))) := Lib.hid (by
        have h := HO.out
        rwa [show Value.slice (some ⟨g, 0, none⟩) (m ++ [(x, y)]).length c = Value.slice (some ⟨g, 0, none⟩) (m.length + 1) c by rw [hml]] at h)
      rw [hml] at hnc hlen ⊢
      have i1 : IntKind.i64.wrap ((m.length : Int) + 1 - 1) = m.length := by rw [show (m.length : Int) + 1 - 1 = m.length by omega]; exact IntWalk.i64_in _ (by omega)
      have i7 : IntKind.i64.wrap (m.length : Int) = m.length := IntWalk.i64_in _ (by omega)
      have j2 : (0 : Int) ≤ (m.length : Int) := by omega
      have j3 : (m.length : Int) < (m.length : Int) + 1 := by omega
      have j4 : decide ((m.length : Int) + 1 > 0) = true := decide_eq_true (by omega)
      have j5 : decide ((m.length : Int) ≥ 0) = true := decide_eq_true (by omega)
      have hxt : (x == t) = false := by simpa using hlast (x, y) (by simp)
      clear hown hcell k0 k1 HO
      by_cases hyn : y = n
      · have hE := Lib.hid (putL_same (m := m) (x := x) t hyn)
        have hb : (y == n) = true := by simpa using hyn
        subst hyn
        go_enter Try.func53, Try.ntmps53
        go_wp2
        go_ret
        exact ⟨_, rfl, by rw [hE.out]; exact HO2.out, Below.refl _ _⟩
      · have hE := Lib.hid (putL_new (m := m) (x := x) t hyn)
        have hb : (y == n) = false := by simpa using hyn
        have HO := HO2
        go_enter Try.func53, Try.ntmps53
        go_wp2_with (at_builtin; refine append_stp _ rfl _ _ rfl base _ (m ++ [(x, y)]) rfl (World.ownsRow.alloc HO.out _) ⟨w.heap.size, 0, none⟩ t n rfl (cell_two_new _ _ _ _) ?_ ?_ ?_; (focus (first | (simp; done) | (simp; omega))); (focus go_size); intro v1 w1 hown1 hb1)
        go_ret
        exact ⟨_, rfl, by rw [hE.out]; exact hown1, ((Below.refl _ _).alloc hbase _).trans hb1⟩
end Go.Proofs.Ytbpjgipldddcfaa
