import Derived.Deep.RegionHeld3
import Derived.WalkKit
/-
  Regions that draw their order, walked operation by operation by an invariant: what each operation leaves is said by a fact that lasts; no order is looked at. Conditions: none.
-/
namespace Go.Proofs.Ytceohfjmjdnelaa
set_option maxRecDepth 100000
open Go.RowKit

/-- A fact on a value that lasts while nothing old is written. -/
structure Fact where
  p : Value → World → Prop
  mono : ∀ (v : Value) (W W' : World), p v W → Below W.heap.size W W' → p v W'
def anyF : Fact := ⟨fun _ _ => True, fun _ _ _ _ _ => trivial⟩
def isF (u : Value) : Fact := ⟨fun v _ => v = u, fun _ _ _ h _ => h⟩
def upd (x : Nat → Value) (i : Nat) (v : Value) : Nat → Value := fun j => if j = i then v else x j
/-- Each operation waits for earlier ones alone. -/
def backB (ops : Array Oper) : Bool := (List.range ops.size).all fun j => match ops[j]? with | some o => o.after.all fun e => decide (e.on < j) | none => true
def waits (o : Oper) (j : Nat) : Bool := o.after.any fun e => e.on == j && Region.binds .any e
section
variable {P : Program} {ops : Array Oper} {Q : Exit → Act → World → Prop} {md : Region.Mode}
theorem ready_nil {l : Array Bool} (hb : backB ops = true) (hr : Region.ready md ops l = []) (hs : l.size = ops.size) : ∀ j, j < ops.size → l.getD j false = true := by
  intro j
  induction j using Nat.strongRecOn with
  | _ j ih =>
    intro hj
    cases h : l.getD j false
    · exfalso
      have hm : j ∈ Region.ready md ops l := by
        refine mem_ready.2 ⟨?_, ops[j], Array.getElem?_eq_getElem hj, fun e he _ => ?_⟩
        · simp [hs, hj] at h ⊢; exact h
        · have h1 := List.all_eq_true.1 hb j (List.mem_range.2 hj)
          rw [Array.getElem?_eq_getElem hj] at h1
          have h2 := Array.all_eq_true_iff_forall_mem.1 h1 e he
          have h3 : e.on < j := by simpa using h2
          exact ih e.on h3 (by omega)
      rw [hr] at hm; cases hm
    · rfl
theorem wpAny_inv {I : Array Bool → Act → World → Prop} (hsz : ∀ l a w, I l a w → l.size = ops.size) (hend : ∀ l a w, I l a w → Region.ready md ops l = [] → Q .normal a w)
    (hstep : ∀ l a w, I l a w → ∀ i ∈ Region.ready md ops l, wpOp P ops Q i (I (l.setIfInBounds i true)) a w) :
    ∀ (fuel : Nat) (l : Array Bool) (a : Act) (w : World), ops.size ≤ l.toList.count true + fuel → I l a w → wpAny P md ops Q fuel l a w
  | 0, l, a, w, hc, hI => by
    have hr : Region.ready md ops l = [] := by
      refine List.eq_nil_iff_forall_not_mem.2 fun j hj => ?_
      obtain ⟨h1, o, ho, _⟩ := mem_ready.1 hj
      have hlt : j < ops.size := (Array.getElem?_eq_some_iff.1 ho).1
      have hs := hsz l a w hI
      have hl : l.toList.length = ops.size := by simpa using hs
      have hle := List.count_le_length (a := true) (l := l.toList)
      have hall := List.count_eq_length.1 (show l.toList.count true = l.toList.length by omega)
      have hj2 : j < l.size := by omega
      have hm := hall l[j] (by simp)
      simp [hj2] at h1
      rw [h1] at hm; cases hm
    exact ⟨hr, hend l a w hI hr⟩
  | fuel + 1, l, a, w, hc, hI => ⟨fun h => hend l a w hI h, fun i hi => wpOp_mono (fun a' w' h' => wpAny_inv hsz hend hstep fuel _ a' w' (by
      obtain ⟨h1, o, ho, _⟩ := mem_ready.1 hi
      have hlt : i < ops.size := (Array.getElem?_eq_some_iff.1 ho).1
      have hs := hsz l a w hI
      have hi2 : i < l.size := by omega
      have h2 : l[i] = false := by simpa [hi2] using h1
      rw [Array.toList_setIfInBounds, List.count_set (by simpa using hi2)]
      have h3 : (l.toList[i]'(by simpa using hi2)) = false := by simpa using h2
      rw [h3, if_neg (by decide), if_pos (by decide)]
      omega) h') (hstep l a w hI i hi)⟩
/-- A region that draws its order: each operation is run once, out of the facts on what it waits for. -/
theorem wp_region_inv {id : Nat} {a : Act} {w : World} (fr : (Nat → Value) → Act) (fs : List Fact) (x0 : Nat → Value)
    (hm : P.follows .mixedOrders = true) (hb : backB ops = true) (ha : a = fr x0)
    (hput : ∀ (x : Nat → Value) (i : Nat) (o : Oper) (v : Value), ops[i]? = some o → (fr x).put o.dst v = fr (upd x i v))
    (hstep : ∀ (i : Nat) (o : Oper), ops[i]? = some o → ∀ (x : Nat → Value) (W : World), Below w.heap.size w W → (∀ j, waits o j = true → (fs.getD j anyF).p (x j) W) →
      ∀ K : Act → World → Prop, Shut (∀ v W', Below W.heap.size W W' → (fs.getD i anyF).p v W' → K ((fr x).put o.dst v) W') → if Region.wanted o (yielded ops (fr x).tmps) = true then Oper.wp P o (fr x) W K Q else K ((fr x).put o.dst undef) W)
    (hend : ∀ (x : Nat → Value) (W : World), Below w.heap.size w W → (∀ i, i < ops.size → (fs.getD i anyF).p (x i) W) → Q .normal (fr x) W) : (Code.region id ops true).wp P Q a w := by
  refine wp_region_any hm ?_
  refine wpAny_inv (I := fun l a' w' => l.size = ops.size ∧ ∃ x, a' = fr x ∧ Below w.heap.size w w' ∧ ∀ i, l.getD i false = true → (fs.getD i anyF).p (x i) w') (fun l a' w' h => h.1) ?_ ?_ ops.size _ a w.drew (by omega) ?_
  · rintro l a' w' ⟨hs, x, rfl, hB, hx⟩ hr
    exact hend x w' hB fun i hi => hx i (ready_nil hb hr hs i hi)
  · rintro l a' w' ⟨hs, x, rfl, hB, hx⟩ i hi
    obtain ⟨h1, o, ho, hw⟩ := mem_ready.1 hi
    refine wpOp_step ho (fun K' hK => ?_)
    refine hstep i o ho x w' hB (fun j hj => ?_) K' ?_
    · obtain ⟨k, hk, h2⟩ := Array.any_eq_true.1 hj
      have he := Array.getElem_mem hk
      generalize o.after[k] = e at *
      simp only [Bool.and_eq_true, beq_iff_eq] at h2
      obtain ⟨rfl, hbd⟩ := h2
      exact hx _ (hw e he hbd)
    · intro v W' hB2 hf
      refine hK _ _ ⟨by simpa using hs, upd x i v, hput x i o v ho, hB.trans (hB2.mono hB.size), fun j hj => ?_⟩
      unfold upd
      by_cases hji : j = i
      · subst hji; rw [if_pos rfl]; exact hf
      · rw [if_neg hji]
        rw [getD_set_ne false (Ne.symm hji)] at hj
        exact (fs.getD j anyF).mono _ _ _ (hx j hj) hB2
  · refine ⟨by simp, x0, ha, Below.drew (Below.refl _ _), fun i hi => ?_⟩
    exfalso
    have h : (Array.replicate ops.size false).getD i false = false := by
      rw [Array.getD_eq_getD_getElem?, Array.getElem?_replicate]
      split <;> rfl
    rw [h] at hi; cases hi
/-- What one operation does, by its run. -/
theorem wp_of_value {o : Oper} {a : Act} {w w' : World} {K : Act → World → Prop} {v : Value} (h : (execOp a.eval o).run P w = .ok (.value v) w') (hk : K (a.put o.dst v) w') : Oper.wp P o a w K Q := by
  unfold Oper.wp; rw [h]; exact hk
theorem wp_of_enter {o : Oper} {a : Act} {w w' : World} {K : Act → World → Prop} {f : FuncId} {args : Array Value} (h : (execOp a.eval o).run P w = .ok (.enter f args) w') (hc : Calls P f args w' fun e w'' => ∃ u, e = .returned u ∧ K (a.put o.dst u) w'') : Oper.wp P o a w K Q := by
  unfold Oper.wp; rw [h]
  refine Calls.mono hc ?_
  rintro e w'' ⟨u, rfl, hk⟩
  exact hk
end
end Go.Proofs.Ytceohfjmjdnelaa
