/-
  Contract of the reference's small: the fifteen periods. Conditions: none.
-/
import Derived.Test.YtmmecpmeemhglaaDoorRin
import Derived.Test.YtmmecpmeemhglaaDoorSat
import Derived.WalkSmall
import Derived.Deep.SlicePairs
import Derived.Laws.AppendOwnNone
import Derived.WalkKit
import Derived.WalkSpells
import Derived.WalkLawsBesides
import Derived.Deep.QuietTactic
import Derived.BigQuiet
import Derived.Handy
import Derived.Lib.Hide
namespace Go.Proofs.YtmmecpmeemhglaaDoor
open Go.RowKit
def flatP (l : List (Int × Int)) : List Value := l.flatMap fun p => [.int .i64 p.1, .int .i64 p.2]
theorem flatP_get : ∀ (l : List (Int × Int)) (k : Nat) (p : Int × Int), l[k]? = some p → (flatP l)[k * 2]? = some (.int .i64 p.1) ∧ (flatP l)[k * 2 + 1]? = some (.int .i64 p.2)
  | [], k, p, h => by simp at h
  | q :: l, 0, p, h => by simp at h; subst h; simp [flatP]
  | q :: l, k + 1, p, h => by
    have := flatP_get l k p (by simpa using h)
    rw [show (k + 1) * 2 = k * 2 + 1 + 1 by omega, show k * 2 + 1 + 1 + 1 = (k * 2 + 1) + 1 + 1 by omega]
    simpa [flatP] using this
theorem flatP_length : ∀ (l : List (Int × Int)), (flatP l).length = l.length * 2
  | [] => rfl
  | q :: l => by have := flatP_length l; simp only [flatP, List.flatMap_cons, List.length_append, List.length_cons, List.length_nil] at this ⊢; omega
theorem flatP_snoc (l : List (Int × Int)) (p : Int × Int) : flatP (l ++ [p]) = flatP l ++ [.int .i64 p.1, .int .i64 p.2] := by simp [flatP]
theorem own_get {w : World} {base : Nat} {e : TypeId} {sz n : Nat} {v : Value} {xs : List Value} (h : w.ownsRow base e sz v n xs) : (v = .slice none 0 0 ∧ n = 0) ∨ ∃ g c, v = .slice (some ⟨g, 0, none⟩) n c ∧ base ≤ g ∧ g < w.heap.size ∧ n ≤ c ∧ ∀ j u, xs[j]? = some u → w.cell? ⟨g, j, none⟩ = some u := by
  have hlen := h.1
  rcases h.2 with ⟨rfl, h0⟩ | ⟨g, cap, cur, rfl, hb, hh, hn, hc, hs, ht⟩
  · exact .inl ⟨rfl, h0⟩
  · have hg : g < w.heap.size := by
      rcases Nat.lt_or_ge g w.heap.size with h1 | h1
      · exact h1
      · rw [Array.getElem?_eq_none h1] at hh; cases hh
    refine .inr ⟨g, cap, rfl, hb, hg, hn, fun j u hj => ?_⟩
    have e : w.cell? ⟨g, j, none⟩ = cur[j]? := cell_of_row w g j cur _ _ hh
    have hjl : j < xs.length := (List.getElem?_eq_some_iff.1 hj).1
    rw [e, ← hj, ← ht, ← Array.getElem?_toList, List.getElem?_take, if_pos (by omega)]
theorem plain_add (g j : Nat) : (⟨g, 0, none⟩ : Addr).add j = ⟨g, j, none⟩ := by
  unfold Addr.add
  split
  · rename_i h; subst h; rfl
  · simp
theorem RdP.nil (w : World) (L B : Nat) (c : Nat) (A : Option Addr) : RdP w L B (.slice A 0 c) [] := ⟨A, c, rfl, by simp, by simp⟩
theorem RdP.of_own {w : World} {base : Nat} {v : Value} {l : List (Int × Int)} (h : w.ownsRow base 23 2 v l.length (flatP l)) (hl : l.length ≤ 9223372036854775807) : RdP w base w.heap.size v l := by
  rcases own_get h with ⟨rfl, h0⟩ | ⟨g, c, rfl, hb, hg, _, hc⟩
  · obtain rfl := List.eq_nil_of_length_eq_zero h0
    exact RdP.nil _ _ _ _ _
  · refine ⟨_, c, rfl, hl, fun k p hk => ⟨_, rfl, hb, hg, ?_⟩⟩
    obtain ⟨h1, h2⟩ := flatP_get l k p hk
    rw [plain_add]
    exact ⟨hc _ _ h1, hc _ _ h2⟩
theorem infoPer : (Tryd.prog.info? 23).map (fun i => (i.zero, i.size, i.bytes)) = some (some (.agg #[.int .i64 0, .int .i64 0]), 2, 16) := by kernel_rfl
theorem append_per {ops : Array Oper} {rest : List Oper} {o : Oper} {a : Act} {Q : Exit → Act → World → Prop} (W : World) (hgd : o.guard = none) (s x : Operand)
    (ho : o.op = .call { callee := .builtin .append, args := #[s, x], argTypes := #[46, 46] }) (base : Nat) (v : Value) (l : List (Int × Int)) (hs : a.eval s = v)
    (hown : W.ownsRow base 23 2 v l.length (flatP l)) (ad : Addr) (c d : Int) (hx : a.eval x = .slice (some ad) 1 1)
    (hnew : ∀ j u, [Value.int .i64 c, Value.int .i64 d][j]? = some u → W.cell? (ad.add j) = some u) (hl : l.length ≤ 1000000000) (hbase : base ≤ W.heap.size)
    (h : ∀ v' w', w'.ownsRow base 23 2 v' (l ++ [(c, d)]).length (flatP (l ++ [(c, d)])) → Below base W w' → wpList Tryd.prog ops Q rest (a.put o.dst v') w') :
    wpList Tryd.prog ops Q (o :: rest) a W := by
  obtain ⟨i0, hi, hz0, hz1, hz2⟩ := info_parts infoPer
  refine wpList_append_own _ hgd s x 46 ho base 23 i0 (.agg #[.int .i64 0, .int .i64 0]) 2 16 Tryd.underlying46 hi hz0 hz1 hz2 rfl (by decide) v l.length (flatP l) hs hown ad 1 1 [.int .i64 c, .int .i64 d] hx rfl
    hnew (fun u hu => by simp at hu; rcases hu with rfl | rfl <;> rfl) (by unfold maxLen; omega) (by omega) hbase ?_
  intro v' w' h1 h2 _
  refine h v' w' (by rw [flatP_snoc, List.length_append]; exact h1) ((Below.refl _ _).grown h2 hbase fun k hk => (hown.lt k hk).1)
theorem own_nilP (W : World) (base : Nat) : W.ownsRow base 23 2 (.slice none 0 0) ([] : List (Int × Int)).length (flatP []) := World.ownsRow_nil W base _ 2
def RetPers (w : World) (l : List (Int × Int)) (e : Ending) (w' : World) : Prop := ∃ v, e = .returned v ∧ RdP w' w.heap.size w'.heap.size v l ∧ Below w.heap.size w w'
theorem RdP.step {w w' : World} {L B : Nat} {v : Value} {l : List (Int × Int)} (h : RdP w L B v l) (hb : Below w.heap.size w w') (hB : B ≤ w.heap.size) : RdP w' L w'.heap.size v l :=
  (h.below (hb.mono hB)).more (Nat.le_trans hB hb.size) (Nat.le_refl _)
theorem cell_two_new (W : World) (x y : Value) (t : TypeId) : ∀ j u, [x, y][j]? = some u → (W.alloc (.cells #[x, y] t)).cell? ((⟨W.heap.size, 0, none⟩ : Addr).add j) = some u := by
  intro j u hu
  match j, hu with
  | 0, hu => simp at hu; subst hu; simp [Addr.add]
  | 1, hu => simp at hu; subst hu; simp [Addr.add]
  | j + 2, hu => simp at hu
/-- The fifteen periods in the reference's order; those laid before the one from f to t. -/
def rsL : List (Int × Int) := [(0, 1), (0, 2), (0, 3), (0, 4), (0, 5), (1, 2), (1, 3), (1, 4), (1, 5), (2, 3), (2, 4), (2, 5), (3, 4), (3, 5), (4, 5)]
def rsN (f t : Nat) : List (Int × Int) := rsL.filter fun p => decide (p.1 < (f : Int)) || (decide (p.1 = (f : Int)) && decide (p.2 < (t : Int)))
theorem rsN_step (f t : Nat) (hf : f < 6) (ht : t < 6) (h : f < t) : rsN f t ++ [((f : Int), (t : Int))] = rsN f (t + 1) :=
  (by decide : ∀ f : Fin 6, ∀ t : Fin 6, f.val < t.val → rsN f.val t.val ++ [((f.val : Int), (t.val : Int))] = rsN f.val (t.val + 1)) ⟨f, hf⟩ ⟨t, ht⟩ h
theorem rsN_next (f : Nat) (hf : f < 6) : rsN f 6 = rsN (f + 1) (f + 1 + 1) :=
  (by decide : ∀ f : Fin 6, rsN f.val 6 = rsN (f.val + 1) (f.val + 1 + 1)) ⟨f, hf⟩
theorem rsN_len (f t : Nat) : (rsN f t).length ≤ 15 := List.length_filter_le _ _

set_option maxRecDepth 100000 in
set_option maxHeartbeats 1600000 in
theorem rsmall_any (w : World) :
    Calls Tryd.prog 52 #[] w (RetPers w rsL) := by
  go_enter Tryd.func52, Tryd.ntmps52
  go_wp2
  go_loopw [1, 2] (fun o i wr => ∃ f : Nat, f ≤ 6 ∧ i = .int .i64 f ∧ wr.ownsRow w.heap.size 23 2 o (rsN f (f + 1)).length (flatP (rsN f (f + 1))) ∧ Below w.heap.size w wr) (fun _ i _ => 6 - (intOf i).toNat)
  case atStart => exact ⟨0, by omega, rfl, own_nilP _ _, Below.refl _ _⟩
  case round =>
    obtain ⟨f, hf, rfl, hown, hbr⟩ := hrel
    by_cases hft : f < 6
    · have hdf : decide ((f : Int) < 6) = true := by simp; omega
      go_wp2
      go_loopw [1, 3] (fun o i wi => ∃ t : Nat, f < t ∧ t ≤ 6 ∧ i = .int .i64 t ∧ wi.ownsRow w.heap.size 23 2 o (rsN f t).length (flatP (rsN f t)) ∧ Below w.heap.size w wi) (fun _ i _ => 6 - (intOf i).toNat)
      case atStart => exact ⟨f + 1, by omega, by omega, by go_num, hown, hbr⟩
      case round =>
        clear hown hbr
        obtain ⟨t, hlo, ht, rfl, hown, hbr⟩ := hrel
        have hbz := hbr.size
        have HO := Lib.hid hown
        clear hown
        by_cases htt : t < 6
        · have hS := Lib.hid (rsN_step f t hft htt hlo)
          have hlen := rsN_len f t
          go_wp2_with (at_builtin; refine append_per _ rfl _ _ rfl w.heap.size _ (rsN f t) rfl (World.ownsRow.alloc HO.out _) ⟨wr.heap.size, 0, none⟩ f t rfl (cell_two_new _ _ _ _) ?_ ?_ ?_; (focus omega); (focus go_size); intro v1 w1 hown1 hb1)
          go_roundw
          case rel => exact ⟨t + 1, by omega, by omega, by go_num, by rw [← hS.out]; exact hown1, (hbr.alloc hbz _).trans hb1⟩
          case measure => simp [intOf]; omega
        · have ht6 : t = 6 := by omega
          subst ht6
          have hN := rsN_next f hft
          rw [hN] at HO
          clear hN
          go_wp2
          go_roundw
          case rel => exact ⟨f + 1, by omega, by go_num, HO.out, hbr⟩
          case measure => simp [intOf]; omega
    · have hf6 : f = 6 := by omega
      subst hf6
      have HO := Lib.hid hown
      clear hown
      rw [show rsN 6 (6 + 1) = rsL by decide] at HO
      go_wp2
      go_ret
      exact ⟨_, rfl, RdP.of_own HO.out (by decide), hbr⟩
end Go.Proofs.YtmmecpmeemhglaaDoor
