/-
  Comparison of two networks: they are equal if their sets are. Conditions: none.
-/
import Derived.Test.YtmmecpmeemhglaaDoorPerm
import Derived.Laws.StructEq
import Derived.WalkKit
import Derived.WalkSpells
import Derived.WalkLawsBesides
import Derived.Deep.QuietTactic
import Derived.BigQuiet
import Derived.Handy
import Derived.Lib.Hide
namespace Go.Proofs.YtmmecpmeemhglaaDoor
open Go.RowKit

/-- Comparison of two arrays, by what comparison of their entries says. -/
theorem eql_array {P : Program} (w : World) (d : Nat) (t e : TypeId) (n s : Nat) (ht : P.underlying t = some (.array n e)) (hs : ∀ w, (sizeOf e).run P w = .ok s w) (xs ys : Array Value) (px py : Nat → Value) (r : Nat → Bool)
    (hx : ∀ i, i < n → ∀ w, (part e xs (i * s)).run P w = .ok (px i) w) (hy : ∀ i, i < n → ∀ w, (part e ys (i * s)).run P w = .ok (py i) w) (hr : ∀ i, i < n → ∀ w, (Op.equalIn d e (px i) (py i)).run P w = .ok (r i) w) :
    (Op.equalIn (d + 1) t (.agg xs) (.agg ys)).run P w = .ok ((List.range n).all r) w := by
  rw [List.range_eq_range', Op.equalIn]
  simp only [Sem.run_bind, run_underlying ht, Result.andThen_ok, hs, Std.Legacy.Range.forIn_eq_forIn_range', Std.Legacy.Range.size, Nat.sub_zero, Nat.add_sub_cancel, Nat.div_one]
  have hl : ∀ i ∈ List.range' 0 n 1, i < n := fun i hi => by simpa using (List.mem_range'_1.1 hi).2
  generalize List.range' 0 n 1 = l at hl ⊢
  induction l with
  | nil => simp
  | cons i l ih =>
    have hi : i < n := hl i (by simp)
    simp only [List.forIn_cons, Sem.run_bind, hx i hi, hy i hi, hr i hi, Result.andThen_ok, List.all_cons]
    cases hb : r i
    · simp
    · simp only [Bool.not_true, Bool.false_eq_true, if_false, Sem.run_pure, Result.andThen_ok, Bool.true_and]
      exact ih fun j hj => hl j (by simp [hj])
theorem part_agg {P : Program} (w : World) (e : TypeId) (s : Nat) (ha : ∀ w, (isAgg e).run P w = .ok true w) (hs : ∀ w, (sizeOf e).run P w = .ok s w) (xs : Array Value) (o : Nat) : (part e xs o).run P w = .ok (.agg (xs.extract o (o + s))) w := by
  unfold part
  simp [ha, hs]
theorem eql_set (w : World) (d : Nat) (a b : Nat) : (Op.equalIn (d + 2) 53 (.agg #[.int .u16 (a : Nat)]) (.agg #[.int .u16 (b : Nat)])).run Tryd.prog w = .ok (a == b) w := by
  rw [run_equalIn_struct w (d + 1) 53 _ _ (by kernel_rfl) (by kernel_rfl)]
  simp [Program.fieldsOf, Op.eqFields, Tryd.underlying53, Tryd.underlying51, part, isAgg, go_sem]
  by_cases h : a = b
  · subst h; simp
  · have h2 : ¬ (a : Int) = (b : Int) := by omega
    simp [h2, h]
/-- Two networks have the same sets. -/
def eqN (M N : Net) : Bool := (List.range 8).all fun i => (List.range 8).all fun j => M i j == N i j
theorem netA_part (n : Nat) (M : Net) (i j : Nat) (hi : i < 8) (hj : j < 8) : (((netA n M).extract 1 65).extract (i * 8) (i * 8 + 8)).extract (j * 1) (j * 1 + 1) = #[.int .u16 (M i j : Nat)] := by
  have hs := netA_size n M
  apply Array.ext
  · simp [hs]; omega
  · intro k h1 h2
    simp at h2
    subst h2
    have h3 := netA_get n M i j hi hj
    rw [Array.getElem?_eq_some_iff] at h3
    obtain ⟨_, h3⟩ := h3
    simp only [Array.getElem_extract]
    simp only [List.getElem_toArray, List.getElem_cons_zero]
    rw [← h3]
    congr 1
    omega
theorem eql_sets (w : World) (n : Nat) (M N : Net) : (Op.equalIn 9999 64 (.agg ((netA n M).extract 1 65)) (.agg ((netA n N).extract 1 65))).run Tryd.prog w = .ok (eqN M N) w := by
  refine eql_array w 9998 64 63 8 8 Tryd.underlying64 (fun w => by kernel_rfl) _ _ _ _ (fun i => (List.range 8).all fun j => M i j == N i j) (fun i _ w => part_agg w _ 8 (fun w => by kernel_rfl) (fun w => by kernel_rfl) _ _) (fun i _ w => part_agg w _ 8 (fun w => by kernel_rfl) (fun w => by kernel_rfl) _ _) (fun i hi w => ?_)
  refine eql_array w 9997 63 53 8 1 Tryd.underlying63 (fun w => by kernel_rfl) _ _ _ _ (fun j => M i j == N i j) (fun j _ w => part_agg w _ 1 (fun w => by kernel_rfl) (fun w => by kernel_rfl) _ _) (fun j _ w => part_agg w _ 1 (fun w => by kernel_rfl) (fun w => by kernel_rfl) _ _) (fun j hj w => ?_)
  rw [netA_part n M i j hi hj, netA_part n N i j hi hj]
  exact eql_set w 9995 _ _
theorem eql_nets (w : World) (n : Nat) (M N : Net) :
    (binOp .eql 66 (.agg (netA n M)) (.agg (netA n N))).run Tryd.prog w = .ok (.bool (eqN M N)) w := by
  rw [run_eql_struct, run_equalIn_struct w 9999 66 _ _ (by kernel_rfl) (by kernel_rfl)]
  have hS := fun w => eql_sets w n M N
  simp [Program.fieldsOf, Op.eqFields, Tryd.underlying66, netA_n, hS, go_sem]
  cases eqN M N <;> simp
theorem eqN_netL (M N : Net) : eqN M N = true ↔ netL M = netL N := by
  unfold eqN netL
  rw [List.all_eq_true]
  constructor
  · intro h
    apply List.map_congr_left
    intro x hx
    have hx := List.mem_range.1 hx
    have h1 := h (x / 8) (List.mem_range.2 (by omega))
    rw [List.all_eq_true] at h1
    exact beq_iff_eq.1 (h1 (x % 8) (List.mem_range.2 (by omega)))
  · intro h i hi
    rw [List.all_eq_true]
    intro j hj
    have hi := List.mem_range.1 hi
    have hj := List.mem_range.1 hj
    have h1 := congrArg (fun l : List Nat => l[i * 8 + j]?) h
    simp only [List.getElem?_map, List.getElem?_range (show i * 8 + j < 64 by omega), Option.map_some, Option.some.injEq] at h1
    rw [show (i * 8 + j) / 8 = i by omega, show (i * 8 + j) % 8 = j by omega] at h1
    exact beq_iff_eq.2 h1
end Go.Proofs.YtmmecpmeemhglaaDoor
