import Derived.WalkKit
import Derived.Lib.Hide
import Derived.WalkSmall
import Derived.Deep.QuietTactic
import Derived.Deep.Slices
import Derived.ProofKit
import Derived.Carry
import Derived.Handed
import Derived.LaidLaws
import Derived.LaidMore
import Derived.Stop.Joined
import Derived.Lib.LaidTab
import Derived.Deep.RegionHeld3
set_option maxRecDepth 100000
set_option maxHeartbeats 25600000
set_option linter.unusedVariables false
set_option linter.unusedSimpArgs false
/-
  Small words for this seat's texts: what a call leaves as it was (cells and marks below the old heap), and what validity of a period means in numbers. Conditions: none.
-/
namespace Go.Proofs.YtdhemhmgenhmaaaGreat
open Go.RowKit
theorem bcell {W w1 : World} (hb : Below W.heap.size W w1) : (∀ b o, b < W.heap.size → w1.cell? ⟨b, o, none⟩ = W.cell? ⟨b, o, none⟩) ∧ (∀ b o, b < W.heap.size → w1.frozen? ⟨b, o, none⟩ = W.frozen? ⟨b, o, none⟩) :=
 ⟨fun b o h => hb.cell (p := ⟨b, o, none⟩) h, fun b o h => hb.frozen (p := ⟨b, o, none⟩) h⟩
def vld (a b : Int) : Bool := decide (0 ≤ a) && decide (a < b) && decide (b ≤ 1099511627776)
end Go.Proofs.YtdhemhmgenhmaaaGreat
namespace Go.Proofs.YtdhemhmgenhmaaaGreat
open Go.RowKit
def Own (w : World) (g : Nat) (t : TypeId) (cs : Array Value) : Prop := w.heap[g]? = some (.cells cs t (0, 0))
theorem Own.lt {w : World} {g : Nat} {t : TypeId} {cs : Array Value} (h : Own w g t cs) : g < w.heap.size := by
 rcases Nat.lt_or_ge g w.heap.size with h1 | h1
 ·exact h1
 ·unfold Own at h; rw [Array.getElem?_eq_none h1] at h; cases h
theorem Own.cell {w : World} {g : Nat} {t : TypeId} {cs : Array Value} (h : Own w g t cs) (i : Nat) : w.cell? ⟨g, i, none⟩ = cs[i]? := cell_of_row w g i cs t (0, 0) h
theorem Own.free {w : World} {g : Nat} {t : TypeId} {cs : Array Value} (h : Own w g t cs) (i : Nat) : w.frozen? ⟨g, i, none⟩ = false := by
 unfold Own at h; simp [World.frozen?, h]
theorem Own.store {w : World} {g : Nat} {t : TypeId} {cs : Array Value} (h : Own w g t cs) (i : Nat) (v : Value) : Own (w.setCell ⟨g, i, none⟩ v) g t (cs.setIfInBounds i v) := by
 unfold Own at h ⊢; simp [World.setCell, Array.getElem?_modify, h]
theorem Own.far {w : World} {g : Nat} {t : TypeId} {cs : Array Value} (h : Own w g t cs) {p : Addr} (hp : g ≠ p.block) (v : Value) : Own (w.setCell p v) g t cs := (Below.heap_setCell w p v g hp).trans h
theorem Own.below {B : Nat} {w w' : World} {g : Nat} {t : TypeId} {cs : Array Value} (h : Own w g t cs) (hb : Below B w w') (hg : g < B) : Own w' g t cs := (hb.block g hg).trans h
theorem Own.alloc {w : World} {g : Nat} {t : TypeId} {cs : Array Value} (h : Own w g t cs) (o : Obj) : Own (w.alloc o) g t cs := (Below.heap_alloc w o g h.lt).trans h
theorem Own.new (w : World) (t : TypeId) (cs : Array Value) : Own (w.alloc (.cells cs t)) w.heap.size t cs := heap_alloc_new w _
theorem Own.drewN {w : World} {g : Nat} {t : TypeId} {cs : Array Value} (h : Own w g t cs) (n : Nat) : Own (w.drewN n) g t cs := h
theorem _root_.Go.RowKit.Below.sc {B : Nat} {w w' : World} (h : Below B w w') (g k : Nat) (v : Value) (hg : B ≤ g := by omega) : Below B w (w'.setCell ⟨g, k, none⟩ v) := h.setCell (p := ⟨g, k, none⟩) hg v
theorem Own.fr {w : World} {b : Nat} {t : TypeId} {cs : Array Value} (h : Own w b t cs) (g k : Nat) (v : Value) (hne : b ≠ g := by omega) : Own (w.setCell ⟨g, k, none⟩ v) b t cs := h.far (p := ⟨g, k, none⟩) hne v
end Go.Proofs.YtdhemhmgenhmaaaGreat
namespace Go.Proofs.YtdhemhmgenhmaaaGreat
open Go.RowKit
structure After (W : World) where
 w : World
 h : Below W.heap.size W w
instance {W : World} : Nonempty (After W) := ⟨⟨W, Below.refl _ _⟩⟩
instance {W : World} : Inhabited (After W) := ⟨⟨W, Below.refl _ _⟩⟩
theorem after_cell {W : World} {a : Addr} {v : Value} (hb : a.block < W.heap.size) (h : W.cell? a = some v) (p : After W) : p.w.cell? a = some v := (p.h.cell hb).trans h
theorem calls_after {P : Program} {f : FuncId} {args : Array Value} {W : World} {p : After W} {v : Value} (h : Calls P f args p.w fun e w' => e = .returned v ∧ Below p.w.heap.size p.w w') :
  Calls P f args p.w fun e w'' => e = .returned v ∧ ∃ q : After W, w'' = q.w :=
 h.mono fun _ _ ⟨he, hb⟩ => ⟨he, ⟨_, p.h.trans (hb.mono p.h.size)⟩, rfl⟩
theorem wp_region_after {P : Program} {id : Nat} {Q : Exit → Act → World → Prop} {a : Act} {w : World} {l : List Oper} (hm : P.follows .mixedOrders = true) (hB : Region.lexB .any l.toArray = true)
  (h : wpQuiet P l.toArray (fun w' => ∃ p : After w, w' = p.w) (fun a' => ∀ w', (∃ p : After w, w' = p.w) → Q .normal a' w') l a) : (Code.region id l.toArray true).wp P Q a w :=
 wp_region_quiet (C := fun w' => ∃ p : After w, w' = p.w) hm hB ⟨⟨w.drew, Below.drew (Below.refl _ _)⟩, rfl⟩ (by simpa using h)
end Go.Proofs.YtdhemhmgenhmaaaGreat
namespace Go.Proofs.YtdhemhmgenhmaaaGreat
open Go.ChangeShapes Go.WideShapes Go.RowKit
section
variable {H : Type} {enc : TypeId × Value → H}
theorem trodAll_below {P : Program} (hl : laidOutB P = true) {W W' : World} (hb : Below W.heap.size W W') : ∀ (ts : List TypeId) (vs : List Value) (ds : List (DataW H)) (ps : List MemPlace),
  (∀ t ∈ ts, P.readableRec t = true ∧ t < P.types.size) → DataW.TrodAll enc P W 0 (fun _ => true) true ts vs ds ps → (∀ x ∈ ps, x.block < W.heap.size) →
  DataW.TrodAll enc P W' 0 (fun b => decide (b < W.heap.size)) true ts vs ds ps
 | [], vs, ds, ps, _, h, _ => by obtain ⟨rfl, rfl, rfl⟩ := trodAll_nil h; exact trodAll_mk0
 | t :: ts, vs, ds, ps, hr, h, hlt => by
  obtain ⟨v, vs', d, ds', p, q, rfl, rfl, rfl, h0, h1⟩ := trodAll_cons h
  exact ⟨p, q, Below.trod hl (hr t (List.mem_cons_self ..)).1 (hr t (List.mem_cons_self ..)).2 h0 hb (fun x hx => hlt x (List.mem_append_left _ hx)),
   trodAll_below hl hb ts vs' ds' q (fun t ht => hr t (List.mem_cons_of_mem _ ht)) h1 (fun x hx => hlt x (List.mem_append_right _ hx)), rfl⟩
end
end Go.Proofs.YtdhemhmgenhmaaaGreat
namespace Go.Proofs.YtdhemhmgenhmaaaGreat
open Go.ChangeShapes Go.WideShapes Go.RowKit
section
variable {H : Type} {enc : TypeId × Value → H}
end
end Go.Proofs.YtdhemhmgenhmaaaGreat
namespace Go.Proofs.YtdhemhmgenhmaaaGreat
open Go.RowKit
structure Fact where
 p : Value → World → Prop
 mono : ∀ (v : Value) (W W' : World), p v W → Below W.heap.size W W' → p v W'
def anyF : Fact := ⟨fun _ _ => True, fun _ _ _ _ _ => trivial⟩
def isF (u : Value) : Fact := ⟨fun v _ => v = u, fun _ _ _ h _ => h⟩
def upd (x : Nat → Value) (i : Nat) (v : Value) : Nat → Value := fun j => if j = i then v else x j
def waits (o : Oper) (j : Nat) : Bool := o.after.any fun e => e.on == j && Region.binds .any e
section
variable {P : Program} {ops : Array Oper} {Q : Exit → Act → World → Prop} {md : Region.Mode}
theorem wpAny_inv {I : Array Bool → Act → World → Prop} (hsz : ∀ l a w, I l a w → l.size = ops.size) (hend : ∀ l a w, I l a w → Region.ready md ops l = [] → Q .normal a w)
  (hstep : ∀ l a w, I l a w → ∀ i ∈ Region.ready md ops l, wpOp P ops Q i (I (l.setIfInBounds i true)) a w) :
  ∀ (fuel : Nat) (l : Array Bool) (a : Act) (w : World), ops.size ≤ l.toList.count true + fuel → I l a w → wpAny P md ops Q fuel l a w
 | 0, l, a, w, hc, hI => by
  have hr : Region.ready md ops l = [] := by
   refine List.eq_nil_iff_forall_not_mem.2 fun j hj => ?_
   obtain ⟨h1, o, ho, _⟩ := mem_ready.1 hj
   have hlt : j < ops.size := (Array.getElem?_eq_some_iff.1 ho).1
   have hs := hsz l a w hI
   have hl : l.toList.length = ops.size := by simpa using hs
   have hle := List.count_le_length (a := true) (l := l.toList)
   have hall := List.count_eq_length.1 (show l.toList.count true = l.toList.length by omega)
   have hj2 : j < l.size := by omega
   have hm := hall l[j] (by simp)
   simp [hj2] at h1
   rw [h1] at hm; cases hm
  exact ⟨hr, hend l a w hI hr⟩
 | fuel + 1, l, a, w, hc, hI => ⟨fun h => hend l a w hI h, fun i hi => wpOp_mono (fun a' w' h' => wpAny_inv hsz hend hstep fuel _ a' w' (by
   obtain ⟨h1, o, ho, _⟩ := mem_ready.1 hi
   have hlt : i < ops.size := (Array.getElem?_eq_some_iff.1 ho).1
   have hs := hsz l a w hI
   have hi2 : i < l.size := by omega
   have h2 : l[i] = false := by simpa [hi2] using h1
   rw [Array.toList_setIfInBounds, List.count_set (by simpa using hi2)]
   have h3 : (l.toList[i]'(by simpa using hi2)) = false := by simpa using h2
   rw [h3, if_neg (by decide), if_pos (by decide)]
   omega) h') (hstep l a w hI i hi)⟩
end
end Go.Proofs.YtdhemhmgenhmaaaGreat
namespace Go.Proofs.YtdhemhmgenhmaaaGreat
open Go.RowKit
def backV (ops : Array Oper) : Bool := (List.range ops.size).all fun j => match ops[j]? with | some o => o.after.all fun e => !(Region.binds .any e) || decide (e.on < j) | none => true
section
variable {P : Program} {ops : Array Oper} {Q : Exit → Act → World → Prop}
theorem ready_nilV {l : Array Bool} (hb : backV ops = true) (hr : Region.ready .any ops l = []) (hs : l.size = ops.size) : ∀ j, j < ops.size → l.getD j false = true := by
 intro j
 induction j using Nat.strongRecOn with
 | _ j ih =>
  intro hj
  cases h : l.getD j false
  ·exfalso
   have hm : j ∈ Region.ready .any ops l := by
    refine mem_ready.2 ⟨?_, ops[j], Array.getElem?_eq_getElem hj, fun e he hbd => ?_⟩
    ·simp [hs, hj] at h ⊢; exact h
    ·have h1 := List.all_eq_true.1 hb j (List.mem_range.2 hj)
     rw [Array.getElem?_eq_getElem hj] at h1
     have h2 := Array.all_eq_true_iff_forall_mem.1 h1 e he
     have h3 : e.on < j := by
      simp only [Bool.or_eq_true, Bool.not_eq_true', decide_eq_true_eq] at h2
      rcases h2 with h2 | h2
      ·rw [hbd] at h2; cases h2
      ·exact h2
     exact ih e.on h3 (by omega)
   rw [hr] at hm; cases hm
  ·rfl
theorem wp_region_invV {id : Nat} {a : Act} {w : World} (fr : (Nat → Value) → Act) (fs : List Fact) (x0 : Nat → Value)
  (hm : P.follows .mixedOrders = true) (hb : backV ops = true) (ha : a = fr x0)
  (hput : ∀ (x : Nat → Value) (i : Nat) (o : Oper) (v : Value), ops[i]? = some o → (fr x).put o.dst v = fr (upd x i v))
  (hstep : ∀ (i : Nat) (o : Oper), ops[i]? = some o → ∀ (x : Nat → Value) (W : World), Below w.heap.size w W → (∀ j, waits o j = true → (fs.getD j anyF).p (x j) W) →
   ∀ K : Act → World → Prop, Shut (∀ v W', Below W.heap.size W W' → (fs.getD i anyF).p v W' → K ((fr x).put o.dst v) W') → if Region.wanted o (yielded ops (fr x).tmps) = true then Oper.wp P o (fr x) W K Q else K ((fr x).put o.dst undef) W)
  (hend : ∀ (x : Nat → Value) (W : World), Below w.heap.size w W → (∀ i, i < ops.size → (fs.getD i anyF).p (x i) W) → Q .normal (fr x) W) : (Code.region id ops true).wp P Q a w := by
 refine wp_region_any hm ?_
 refine wpAny_inv (I := fun l a' w' => l.size = ops.size ∧ ∃ x, a' = fr x ∧ Below w.heap.size w w' ∧ ∀ i, l.getD i false = true → (fs.getD i anyF).p (x i) w') (fun l a' w' h => h.1) ?_ ?_ ops.size _ a w.drew (by omega) ?_
 ·rintro l a' w' ⟨hs, x, rfl, hB, hx⟩ hr
  exact hend x w' hB fun i hi => hx i (ready_nilV hb hr hs i hi)
 ·rintro l a' w' ⟨hs, x, rfl, hB, hx⟩ i hi
  obtain ⟨h1, o, ho, hw⟩ := mem_ready.1 hi
  refine wpOp_step ho (fun K' hK => ?_)
  refine hstep i o ho x w' hB (fun j hj => ?_) K' ?_
  ·obtain ⟨k, hk, h2⟩ := Array.any_eq_true.1 hj
   have he := Array.getElem_mem hk
   generalize o.after[k] = e at *
   simp only [Bool.and_eq_true, beq_iff_eq] at h2
   obtain ⟨rfl, hbd⟩ := h2
   exact hx _ (hw e he hbd)
  ·intro v W' hB2 hf
   refine hK _ _ ⟨by simpa using hs, upd x i v, hput x i o v ho, hB.trans (hB2.mono hB.size), fun j hj => ?_⟩
   unfold upd
   by_cases hji : j = i
   ·subst hji; rw [if_pos rfl]; exact hf
   ·rw [if_neg hji]
    rw [getD_set_ne false (Ne.symm hji)] at hj
    exact (fs.getD j anyF).mono _ _ _ (hx j hj) hB2
 ·refine ⟨by simp, x0, ha, Below.drew (Below.refl _ _), fun i hi => ?_⟩
  exfalso
  have h : (Array.replicate ops.size false).getD i false = false := by
   rw [Array.getD_eq_getD_getElem?, Array.getElem?_replicate]
   split <;> rfl
  rw [h] at hi; cases hi
end
end Go.Proofs.YtdhemhmgenhmaaaGreat
