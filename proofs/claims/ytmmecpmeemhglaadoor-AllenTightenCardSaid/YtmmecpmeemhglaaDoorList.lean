/-
  Slices of ints that calls of this program have made, and the contract of set.list: the members in ascending order. Conditions: the number is below 2^13.
-/
import Derived.Test.YtmmecpmeemhglaaDoorSet
import Derived.WalkSmall
import Derived.WalkKit
import Derived.WalkSpells
import Derived.WalkLawsBesides
import Derived.Deep.QuietTactic
import Derived.BigQuiet
import Derived.Handy
import Derived.Lib.Hide
namespace Go.Proofs.YtmmecpmeemhglaaDoor
open Go.RowKit

theorem add_block (ad : Addr) (k : Nat) : (ad.add k).block = ad.block := by unfold Addr.add; split <;> rfl
/-- The slice v holds the numbers l; it lies below block B and not below block L. -/
def RdI (w : World) (L B : Nat) (v : Value) (l : List Int) : Prop :=
  ∃ A c, v = .slice A l.length c ∧ l.length ≤ 9223372036854775807 ∧ ∀ (k : Nat) (n : Int), l[k]? = some n → ∃ ad : Addr, A = some ad ∧ L ≤ ad.block ∧ ad.block < B ∧ w.cell? (ad.add k) = some (.int .i64 n)
theorem RdI.below {w w' : World} {L B : Nat} {v : Value} {l : List Int} (h : RdI w L B v l) (hb : Below B w w') : RdI w' L B v l := by
  obtain ⟨A, c, hv, hl, hc⟩ := h
  exact ⟨A, c, hv, hl, fun k n hk => let ⟨ad, h1, h0, h2, h3⟩ := hc k n hk; ⟨ad, h1, h0, h2, (hb.cell (p := ad.add k) (by rw [add_block]; exact h2)).trans h3⟩⟩
theorem RdI.more {w : World} {L L' B B' : Nat} {v : Value} {l : List Int} (h : RdI w L B v l) (hB : B ≤ B') (hL : L' ≤ L) : RdI w L' B' v l := by
  obtain ⟨A, c, hv, hl, hc⟩ := h
  exact ⟨A, c, hv, hl, fun k n hk => let ⟨ad, h1, h0, h2, h3⟩ := hc k n hk; ⟨ad, h1, by omega, by omega, h3⟩⟩
theorem RdI.set {w : World} {L B : Nat} {v : Value} {l : List Int} (h : RdI w L B v l) {p : Addr} (hp : p.block < L ∨ B ≤ p.block) (x : Value) : RdI (w.setCell p x) L B v l := by
  obtain ⟨A, c, hv, hl, hc⟩ := h
  refine ⟨A, c, hv, hl, fun k n hk => ?_⟩
  obtain ⟨ad, h1, h0, h2, h3⟩ := hc k n hk
  refine ⟨ad, h1, h0, h2, (World.cell?_setCell_other _ _ _ _ ?_).trans h3⟩
  intro e
  have e2 := congrArg Addr.block e
  rw [add_block] at e2
  omega
theorem RdI.at {w : World} {L B : Nat} {A : Option Addr} {m c : Nat} {l : List Int} (h : RdI w L B (.slice A m c) l) {k : Nat} {n : Int} (hk : l[k]? = some n) : ∃ ad : Addr, A = some ad ∧ L ≤ ad.block ∧ ad.block < B ∧ w.cell? (ad.add k) = some (.int .i64 n) := by
  obtain ⟨A', c', hv, hl, hc⟩ := h
  injection hv with e1 e2 e3
  subst e1
  exact hc k n hk
def intsV (l : List Int) : List Value := l.map fun n => .int .i64 n
theorem RdI.of_own {w : World} {base : Nat} {v : Value} {l : List Int} (h : w.ownsRow base 3 1 v l.length (intsV l)) (hl : l.length ≤ 9223372036854775807) : RdI w base w.heap.size v l := by
  rcases h.2 with ⟨rfl, h0⟩ | ⟨g, cap, cur, rfl, hb, hh, hn, hc, hs, ht⟩
  · obtain rfl := List.eq_nil_of_length_eq_zero h0
    exact ⟨none, 0, rfl, hl, fun k n hk => by simp at hk⟩
  · have hg : g < w.heap.size := by
      rcases Nat.lt_or_ge g w.heap.size with h1 | h1
      · exact h1
      · rw [Array.getElem?_eq_none h1] at hh; cases hh
    refine ⟨_, cap, rfl, hl, fun k n hk => ⟨_, rfl, hb, hg, ?_⟩⟩
    have hkl : k < l.length := (List.getElem?_eq_some_iff.1 hk).1
    have e : w.cell? ⟨g, k, none⟩ = cur[k]? := cell_of_row w g k cur _ _ hh
    have hv : (intsV l)[k]? = some (.int .i64 n) := by unfold intsV; rw [List.getElem?_map, hk]; rfl
    have e2 : w.cell? ⟨g, k, none⟩ = some (.int .i64 n) := by rw [e, ← hv, ← ht, ← Array.getElem?_toList, List.getElem?_take, if_pos (by omega)]
    unfold Addr.add
    split
    · rename_i h; subst h; exact e2
    · simpa using e2
theorem own_below {W w1 : World} {base e size n : Nat} {v : Value} {xs : List Value} (h : W.ownsRow base e size v n xs) (hb : Below W.heap.size W w1) : w1.ownsRow base e size v n xs :=
  h.kept (row := none) ⟨hb.os, hb.tape, hb.output, hb.size, fun j hj _ => hb.block j hj⟩ (by cases hv : v.ownBlock <;> simp)

def RetInts (w : World) (l : List Int) (e : Ending) (w' : World) : Prop := ∃ v, e = .returned v ∧ RdI w' w.heap.size w'.heap.size v l ∧ Below w.heap.size w w'
theorem infoInt : (Tryd.prog.info? 3).map (fun i => (i.zero, i.size, i.bytes)) = some (some (.int .i64 0), 1, 8) := by kernel_rfl

theorem append_int {ops : Array Oper} {rest : List Oper} {o : Oper} {a : Act} {Q : Exit → Act → World → Prop} (W : World) (hgd : o.guard = none) (s x : Operand)
    (ho : o.op = .call { callee := .builtin .append, args := #[s, x], argTypes := #[32, 32] }) (base : Nat) (v : Value) (l : List Int) (hs : a.eval s = v)
    (hown : W.ownsRow base 3 1 v l.length (intsV l)) (ad : Addr) (c : Int) (hx : a.eval x = .slice (some ad) 1 1)
    (hnew : ∀ j u, [Value.int .i64 c][j]? = some u → W.cell? (ad.add j) = some u) (hl : l.length ≤ 1000) (hbase : base ≤ W.heap.size)
    (h : ∀ v' w', w'.ownsRow base 3 1 v' (l ++ [c]).length (intsV (l ++ [c])) → Below base W w' → wpList Tryd.prog ops Q rest (a.put o.dst v') w') :
    wpList Tryd.prog ops Q (o :: rest) a W := by
  obtain ⟨i0, hi, hz0, hz1, hz2⟩ := info_parts infoInt
  refine wpList_append_own _ hgd s x 32 ho base 3 i0 (.int .i64 0) 1 8 Tryd.underlying32 hi hz0 hz1 hz2 rfl (by decide) v l.length (intsV l) hs hown ad 1 1 [.int .i64 c] hx rfl
    hnew (fun u hu => by simp at hu; rcases hu with rfl; rfl) (by unfold maxLen; omega) (by omega) hbase ?_
  intro v' w' h1 h2 _
  refine h v' w' (by rw [show intsV (l ++ [c]) = intsV l ++ [.int .i64 c] by simp [intsV], List.length_append]; exact h1) ((Below.refl _ _).grown h2 hbase fun k hk => (hown.lt k hk).1)

/-- The members below k. -/
def mb (x k : Nat) : List Int := ((List.range k).filter fun r => x.testBit r).map fun r : Nat => (r : Int)
theorem mb_step (x k : Nat) : mb x (k + 1) = mb x k ++ (if x.testBit k then [(k : Int)] else []) := by
  unfold mb
  rw [List.range_succ, List.filter_append, List.map_append]
  cases h : x.testBit k <;> simp [h]
theorem mb_le (x k : Nat) : (mb x k).length ≤ k := by
  unfold mb; rw [List.length_map]; exact Nat.le_trans (List.length_filter_le _ _) (by simp)
theorem own_nil (W : World) (base : Nat) : W.ownsRow base 3 1 (.slice none 0 0) ([] : List Int).length (intsV []) := World.ownsRow_nil W base _ 1

set_option maxRecDepth 100000 in
set_option maxHeartbeats 1600000 in
theorem list_any (x : Nat) (w : World) (hx : x < 8192) :
    Calls Tryd.prog 35 #[.agg #[.int .u16 x]] w (RetInts w (mb x 13)) := by
  go_enter Tryd.func35, Tryd.ntmps35
  go_wp2
  go_loopw [3, 5] (fun v i wr => ∃ k : Nat, k ≤ 13 ∧ i = .int .i64 k ∧ wr.ownsRow (w.heap.size + 1) 3 1 v (mb x k).length (intsV (mb x k)) ∧ Below (w.heap.size + 1) (w.alloc (.cells #[.int .u16 x] 53)) wr) (fun _ i _ => 13 - (intOf i).toNat)
  case atStart => exact ⟨0, Nat.zero_le _, rfl, own_nil _ _, Below.refl _ _⟩
  case round =>
    obtain ⟨k, hk, rfl, hown0, hbr⟩ := hrel
    have hbx := (hbr.cell (p := ⟨w.heap.size, 0, none⟩) (Nat.lt_succ_self _)).trans (show (w.alloc (.cells #[.int .u16 x] 53)).cell? ⟨w.heap.size, 0, none⟩ = some (.int .u16 (x : Int)) by simp)
    have hsz := hbr.size
    simp only [World.size_alloc] at hsz
    have hlen := mb_le x k
    by_cases hlt : k < 13
    · have HS := Lib.hid (mb_step x k)
      have HO := Lib.hid hown0
      clear hown0
      cases ht : x.testBit k
      · go_wp2_with (go_at_call 51; refine (has_any _ _ _ hx (by omega)).mono ?_; rintro e w1 ⟨rfl, hb⟩)
        go_roundw
        case rel => exact ⟨k + 1, by omega, by go_num, by rw [HS.out, ht]; simpa using own_below HO.out hb, hbr.trans (hb.mono (by omega))⟩
        case measure => simp [intOf]; omega
      · go_wp2_with (first | (go_at_call 51; refine (has_any _ _ _ hx (by omega)).mono ?_; rintro e w1 ⟨rfl, hb⟩) | (at_builtin; refine append_int _ rfl _ _ rfl (w.heap.size + 1) _ (mb x k) rfl (World.ownsRow.alloc (own_below HO.out hb) _) ⟨w1.heap.size, 0, none⟩ (k : Int) rfl (cell_one_new _ _ _) ?_ ?_ ?_; (focus omega); (focus (have := hb.size; simp; omega)); intro v1 w2 hown hb2))
        go_roundw
        case rel => exact ⟨k + 1, by omega, by go_num, by rw [HS.out, ht]; exact hown, hbr.trans ((hb.mono (by omega)).trans (((Below.refl _ _).alloc (by have := hb.size; omega) _).trans hb2))⟩
        case measure => simp [intOf]; omega
    · have hk13 : k = 13 := by omega
      subst hk13
      have HO := Lib.hid hown0
      clear hown0
      go_wp2
      go_ret
      exact ⟨_, rfl, (RdI.of_own HO.out (by omega)).more (Nat.le_refl _) (Nat.le_succ _), ((Below.refl _ _).alloc (Nat.le_refl _) _).trans (hbr.mono (by omega))⟩
end Go.Proofs.YtmmecpmeemhglaaDoor
