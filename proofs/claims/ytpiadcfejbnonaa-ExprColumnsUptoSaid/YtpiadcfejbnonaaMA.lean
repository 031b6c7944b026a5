import Derived.WalkKit
import Derived.Lib.Hide
import Derived.WalkSmall
import Derived.Deep.QuietTactic
import Derived.Deep.Slices
import Derived.ProofKit
import Derived.Carry
import Derived.Handed
import Derived.LaidLaws
import Derived.LaidMore
import Derived.Stop.Joined
import Derived.Lib.LaidTab
import Derived.Deep.RegionHeld3
/-
  Small words for this seat's texts: what a call leaves as it was (cells and marks below the old heap), and what validity of a period means in numbers. Conditions: none.
-/
namespace Go.Proofs.Ytpiadcfejbnonaa
set_option linter.unusedVariables false
set_option linter.unusedSimpArgs false
set_option linter.unusedVariables false
set_option linter.unusedSimpArgs false
set_option linter.unusedVariables false
set_option linter.unusedSimpArgs false
set_option maxRecDepth 100000
open Go.RowKit

theorem bcell {W w1 : World} (hb : Below W.heap.size W w1) : (∀ b o, b < W.heap.size → w1.cell? ⟨b, o, none⟩ = W.cell? ⟨b, o, none⟩) ∧ (∀ b o, b < W.heap.size → w1.frozen? ⟨b, o, none⟩ = W.frozen? ⟨b, o, none⟩) :=
  ⟨fun b o h => hb.cell (p := ⟨b, o, none⟩) h, fun b o h => hb.frozen (p := ⟨b, o, none⟩) h⟩

theorem bcellB {B : Nat} {W w1 : World} (hb : Below B W w1) : (∀ b o, b < B → w1.cell? ⟨b, o, none⟩ = W.cell? ⟨b, o, none⟩) ∧ (∀ b o, b < B → w1.frozen? ⟨b, o, none⟩ = W.frozen? ⟨b, o, none⟩) :=
  ⟨fun b o h => hb.cell (p := ⟨b, o, none⟩) h, fun b o h => hb.frozen (p := ⟨b, o, none⟩) h⟩

/-- A period's validity. -/
def vld (a b : Int) : Bool := decide (0 ≤ a) && decide (a < b) && decide (b ≤ 1099511627776)
def cnt (a b t : Int) : Bool := vld a b && decide (a ≤ t) && decide (t < b)
def cvr (a b c d : Int) : Bool := vld a b && vld c d && decide (a ≤ c) && decide (d ≤ b)
def ovl (a b c d : Int) : Bool := vld a b && vld c d && decide (a < d) && decide (c < b)
def adj (a b c d : Int) : Bool := vld a b && vld c d && ((b == c) || (d == a))
def prd (a b : Int) : Value := .agg #[.int .i64 a, .int .i64 b]
end Go.Proofs.Ytpiadcfejbnonaa
/-
  A block of a call's own that is known whole, and what a store does to it. Conditions: none.
-/
namespace Go.Proofs.Ytpiadcfejbnonaa
set_option linter.unusedVariables false
set_option linter.unusedSimpArgs false
set_option linter.unusedVariables false
set_option linter.unusedSimpArgs false
set_option linter.unusedVariables false
set_option linter.unusedSimpArgs false
set_option maxRecDepth 100000
open Go.RowKit

/-- Block g holds just the cells cs of type t; none of them is frozen. -/
def Own (w : World) (g : Nat) (t : TypeId) (cs : Array Value) : Prop := w.heap[g]? = some (.cells cs t (0, 0))
theorem Own.lt {w : World} {g : Nat} {t : TypeId} {cs : Array Value} (h : Own w g t cs) : g < w.heap.size := by
  rcases Nat.lt_or_ge g w.heap.size with h1 | h1
  · exact h1
  · unfold Own at h; rw [Array.getElem?_eq_none h1] at h; cases h
theorem Own.cell {w : World} {g : Nat} {t : TypeId} {cs : Array Value} (h : Own w g t cs) (i : Nat) : w.cell? ⟨g, i, none⟩ = cs[i]? := cell_of_row w g i cs t (0, 0) h
theorem Own.free {w : World} {g : Nat} {t : TypeId} {cs : Array Value} (h : Own w g t cs) (i : Nat) : w.frozen? ⟨g, i, none⟩ = false := by
  unfold Own at h; simp [World.frozen?, h]
theorem Own.store {w : World} {g : Nat} {t : TypeId} {cs : Array Value} (h : Own w g t cs) (i : Nat) (v : Value) : Own (w.setCell ⟨g, i, none⟩ v) g t (cs.setIfInBounds i v) := by
  unfold Own at h ⊢; simp [World.setCell, Array.getElem?_modify, h]
theorem Own.far {w : World} {g : Nat} {t : TypeId} {cs : Array Value} (h : Own w g t cs) {p : Addr} (hp : g ≠ p.block) (v : Value) : Own (w.setCell p v) g t cs := (Below.heap_setCell w p v g hp).trans h
theorem Own.below {B : Nat} {w w' : World} {g : Nat} {t : TypeId} {cs : Array Value} (h : Own w g t cs) (hb : Below B w w') (hg : g < B) : Own w' g t cs := (hb.block g hg).trans h
theorem Own.alloc {w : World} {g : Nat} {t : TypeId} {cs : Array Value} (h : Own w g t cs) (o : Obj) : Own (w.alloc o) g t cs := (Below.heap_alloc w o g h.lt).trans h
theorem Own.new (w : World) (t : TypeId) (cs : Array Value) : Own (w.alloc (.cells cs t)) w.heap.size t cs := heap_alloc_new w _
theorem Own.drewN {w : World} {g : Nat} {t : TypeId} {cs : Array Value} (h : Own w g t cs) (n : Nat) : Own (w.drewN n) g t cs := h
theorem own_setCell {w : World} {base e size n : Nat} {v : Value} {xs : List Value} (h : w.ownsRow base e size v n xs) {p : Addr} (hp : p.block < base) (u : Value) : (w.setCell p u).ownsRow base e size v n xs := by
  refine ⟨h.1, ?_⟩
  rcases h.2 with h0 | ⟨g, cap, cur, hv, hb, hh, hr⟩
  · exact .inl h0
  · exact .inr ⟨g, cap, cur, hv, hb, (Below.heap_setCell w p u g (by omega)).trans hh, hr⟩
end Go.Proofs.Ytpiadcfejbnonaa
/-
  Regions that draw their order, read, and call functions that may make memory but write nothing old: walked once, in the order of the text. Conditions: none.
-/
namespace Go.Proofs.Ytpiadcfejbnonaa
set_option linter.unusedVariables false
set_option linter.unusedSimpArgs false
set_option linter.unusedVariables false
set_option linter.unusedSimpArgs false
set_option linter.unusedVariables false
set_option linter.unusedSimpArgs false
set_option maxRecDepth 100000
open Go.RowKit

/-- A world behind W in which nothing old is written. -/
structure After (W : World) where
  w : World
  h : Below W.heap.size W w
instance {W : World} : Nonempty (After W) := ⟨⟨W, Below.refl _ _⟩⟩
instance {W : World} : Inhabited (After W) := ⟨⟨W, Below.refl _ _⟩⟩
theorem after_cell {W : World} {a : Addr} {v : Value} (hb : a.block < W.heap.size) (h : W.cell? a = some v) (p : After W) : p.w.cell? a = some v := (p.h.cell hb).trans h
theorem calls_after {P : Program} {f : FuncId} {args : Array Value} {W : World} {p : After W} {v : Value} (h : Calls P f args p.w fun e w' => e = .returned v ∧ Below p.w.heap.size p.w w') :
    Calls P f args p.w fun e w'' => e = .returned v ∧ ∃ q : After W, w'' = q.w :=
  h.mono fun _ _ ⟨he, hb⟩ => ⟨he, ⟨_, p.h.trans (hb.mono p.h.size)⟩, rfl⟩
theorem wp_region_after {P : Program} {id : Nat} {Q : Exit → Act → World → Prop} {a : Act} {w : World} {l : List Oper} (hm : P.follows .mixedOrders = true) (hB : Region.lexB .any l.toArray = true)
    (h : wpQuiet P l.toArray (fun w' => ∃ p : After w, w' = p.w) (fun a' => ∀ w', (∃ p : After w, w' = p.w) → Q .normal a' w') l a) : (Code.region id l.toArray true).wp P Q a w :=
  wp_region_quiet (C := fun w' => ∃ p : After w, w' = p.w) hm hB ⟨⟨w.drew, Below.drew (Below.refl _ _)⟩, rfl⟩ (by simpa using h)
end Go.Proofs.Ytpiadcfejbnonaa
/-
  The frame of a statement's proof, over any program: if every call with readable arguments returns true and writes nothing old, the statement's row holds. Conditions: as the row's own (its listed variables).
-/
namespace Go.Proofs.Ytpiadcfejbnonaa
set_option linter.unusedVariables false
set_option linter.unusedSimpArgs false
set_option linter.unusedVariables false
set_option linter.unusedSimpArgs false
set_option linter.unusedVariables false
set_option linter.unusedSimpArgs false
set_option maxRecDepth 100000
open Go.ChangeShapes Go.WideShapes Go.RowKit

section
variable {H : Type} {enc : TypeId × Value → H}

theorem trodAll_below {P : Program} (hl : laidOutB P = true) {W W' : World} (hb : Below W.heap.size W W') : ∀ (ts : List TypeId) (vs : List Value) (ds : List (DataW H)) (ps : List MemPlace),
    (∀ t ∈ ts, P.readableRec t = true ∧ t < P.types.size) → DataW.TrodAll enc P W 0 (fun _ => true) true ts vs ds ps → (∀ x ∈ ps, x.block < W.heap.size) →
    DataW.TrodAll enc P W' 0 (fun b => decide (b < W.heap.size)) true ts vs ds ps
  | [], vs, ds, ps, _, h, _ => by obtain ⟨rfl, rfl, rfl⟩ := trodAll_nil h; exact trodAll_mk0
  | t :: ts, vs, ds, ps, hr, h, hlt => by
    obtain ⟨v, vs', d, ds', p, q, rfl, rfl, rfl, h0, h1⟩ := trodAll_cons h
    exact ⟨p, q, Below.trod hl (hr t (List.mem_cons_self ..)).1 (hr t (List.mem_cons_self ..)).2 h0 hb (fun x hx => hlt x (List.mem_append_left _ hx)),
      trodAll_below hl hb ts vs' ds' q (fun t ht => hr t (List.mem_cons_of_mem _ ht)) h1 (fun x hx => hlt x (List.mem_append_right _ hx)), rfl⟩

theorem trodAll_len {P : Program} {w : World} {base : Nat} {sp : Nat → Bool} {hd : Bool} : ∀ (ts : List TypeId) (vs : List Value) (ds : List (DataW H)) (ps : List MemPlace), DataW.TrodAll enc P w base sp hd ts vs ds ps → ds.length = ts.length
  | [], vs, ds, ps, h => by obtain ⟨rfl, rfl, rfl⟩ := trodAll_nil h; rfl
  | t :: ts, vs, ds, ps, h => by
    obtain ⟨v, vs', d, ds', p, q, rfl, rfl, rfl, h0, h1⟩ := trodAll_cons h
    rw [List.length_cons, List.length_cons, trodAll_len ts vs' ds' q h1]

theorem law_lift {C : Checked} {os : Os} {f : FuncId} {fn : Func} {s : ChangeSpec} {X : World → Prop} {tb : TypeId} {nm : String} {gn : (H : Type) → List (DataW H) → Left H}
    (hs : s = { name := nm, fn := gn })
    (own : ownKnob C.prog.godebug = none) (started : os.Started) (noInit : C.prog.inits.idxOf? f = none) (hfn : C.prog.funcs[f]? = some fn)
    (hl : laidOutB C.prog = true) (hr : (fn.params.toList.all fun t => C.prog.readableRec t && decide (t < C.prog.types.size)) = true)
    (hres : fn.resultTypes = #[tb]) (htb : C.prog.underlying tb = some .bool)
    (hspec : ∀ ds : List (DataW H), ds.length = fn.params.toList.length → gn H ds = { results := [.lit (.bool true)], args := ds })
    (hX : ∀ w w' : World, w.heap = w'.heap → X w → X w')
    (witness : ∃ (w : World) (tape : Tape) (i : Input), w.os = os ∧ (w.forCall tape i).Shaped C.prog ∧ i.vars = [] ∧ Input.okWide C.prog (w.forCall tape i) .any w.heap.size f i ∧
      ((s.pre enc C.prog fn [] false (w.forCall tape i).memory i.args ∧ X (w.forCall tape i).memory) ∧ sizedMet enc C.prog fn (OpenSpec.ofChange s) false (w.forCall tape i).memory i.args) ∧ ({} : Assume).holds C.prog (lone (Frame.enter C.prog f i.args .normal) [] (w.forCall tape i)))
    (contract : ∀ (W : World) (base : Nat) (args : Array Value) (ds : List (DataW H)) (ps : List MemPlace), W.ShapedOpen C.prog →
      (∀ (j : Nat) t v, fn.params[j]? = some t → args[j]? = some v → Value.okWide C.prog W .any base t v) →
      DataW.TrodAll enc C.prog W 0 (fun _ => true) true fn.params.toList args.toList ds ps → X W →
      Calls C.prog f args W fun e W' => e = .returned (.bool true) ∧ Below W.heap.size W W') :
    ReturnsInHanded {} C os f .any (fun w args => (s.pre enc C.prog fn [] false w args ∧ X w) ∧ sizedMet enc C.prog fn (OpenSpec.ofChange s) false w args) (s.post enc C.prog fn false true false false) := by
  refine returnsInHanded_of_calls own started noInit witness ?_
  intro w tape i _ hshape _ hok hpre _
  obtain ⟨_, _, _, fn', hfn', _, _, _, _, hval⟩ := hok
  have e : fn' = fn := Option.some.inj (hfn'.symm.trans hfn)
  subst e
  obtain ⟨⟨⟨ds, gs, before, hw, _⟩, hx⟩, _⟩ := hpre
  have hw' := DataW.Whole.of_heap (w' := w.forCall tape i) (by rfl) hw
  have hlt : ∀ x ∈ before, x.block < (w.forCall tape i).heap.size := fun x hx => by simpa using hw'.lt x hx
  have hwhole := hw'
  obtain ⟨p, q, hA, hV, hpq, _, _⟩ := hw'
  have hVn : gs = [] ∧ q = [] := by
    rw [hs] at hV
    cases gs with
    | nil => exact ⟨rfl, hV⟩
    | cons g gs => exact absurd hV (by simp [DataW.TrodVars])
  obtain ⟨rfl, rfl⟩ := hVn
  rw [List.append_nil] at hpq
  subst hpq
  refine (contract (w.forCall tape i) w.heap.size i.args ds before hshape hval hA (hX _ _ (by rfl) hx)).mono fun e W' ⟨he, hb⟩ => ?_
  subst he
  have hlen := trodAll_len _ _ _ _ hA
  have hsp : s.fn H (ds ++ []) = { results := [.lit (.bool true)], args := ds } := by rw [List.append_nil, hs]; exact hspec ds hlen
  have hr' : ∀ t ∈ fn'.params.toList, C.prog.readableRec t = true ∧ t < C.prog.types.size := fun t ht => by
    have := List.all_eq_true.1 hr t ht
    simpa using this
  refine ChangeSpec.post_blind ⟨ds, [], before, [], before, [], hwhole, ?_, ?_, ?_, ?_, fun h => by cases h⟩
  · rw [hsp, hres]
    exact trodAll_mk1 (shut_bool htb _)
  · rw [hsp]
    exact trodAll_below hl hb _ _ _ _ hr' hA hlt
  · rw [hsp, hs]
    exact rfl
  · exact hb.frame _
end
end Go.Proofs.Ytpiadcfejbnonaa
/-
  The frame of a statement's proof, as Lift, and the contract is told how much the slices take. Conditions: as the row's own.
-/
namespace Go.Proofs.Ytpiadcfejbnonaa
set_option linter.unusedVariables false
set_option linter.unusedSimpArgs false
set_option linter.unusedVariables false
set_option linter.unusedSimpArgs false
set_option linter.unusedVariables false
set_option linter.unusedSimpArgs false
set_option maxRecDepth 100000
open Go.ChangeShapes Go.WideShapes Go.RowKit

section
variable {H : Type} {enc : TypeId × Value → H}
theorem law_liftZ {C : Checked} {os : Os} {f : FuncId} {fn : Func} {s : ChangeSpec} {X : World → Prop} {tb : TypeId} {nm : String} {gn : (H : Type) → List (DataW H) → Left H}
    (hs : s = { name := nm, fn := gn })
    (own : ownKnob C.prog.godebug = none) (started : os.Started) (noInit : C.prog.inits.idxOf? f = none) (hfn : C.prog.funcs[f]? = some fn)
    (hl : laidOutB C.prog = true) (hr : (fn.params.toList.all fun t => C.prog.readableRec t && decide (t < C.prog.types.size)) = true)
    (hres : fn.resultTypes = #[tb]) (htb : C.prog.underlying tb = some .bool)
    (hspec : ∀ ds : List (DataW H), ds.length = fn.params.toList.length → gn H ds = { results := [.lit (.bool true)], args := ds })
    (hX : ∀ w w' : World, w.heap = w'.heap → X w → X w')
    (witness : ∃ (w : World) (tape : Tape) (i : Input), w.os = os ∧ (w.forCall tape i).Shaped C.prog ∧ i.vars = [] ∧ Input.okWide C.prog (w.forCall tape i) .any w.heap.size f i ∧
      ((s.pre enc C.prog fn [] false (w.forCall tape i).memory i.args ∧ X (w.forCall tape i).memory) ∧ sizedMet enc C.prog fn (OpenSpec.ofChange s) false (w.forCall tape i).memory i.args) ∧ ({} : Assume).holds C.prog (lone (Frame.enter C.prog f i.args .normal) [] (w.forCall tape i)))
    (contract : ∀ (W : World) (base : Nat) (args : Array Value) (ds : List (DataW H)) (ps : List MemPlace), W.ShapedOpen C.prog →
      (∀ (j : Nat) t v, fn.params[j]? = some t → args[j]? = some v → Value.okWide C.prog W .any base t v) →
      DataW.TrodAll enc C.prog W 0 (fun _ => true) true fn.params.toList args.toList ds ps → X W → (DataW.weightsEach C.prog fn.params.toList ds).all (· ≤ reachBytes) = true →
      Calls C.prog f args W fun e W' => e = .returned (.bool true) ∧ Below W.heap.size W W') :
    ReturnsInHanded {} C os f .any (fun w args => (s.pre enc C.prog fn [] false w args ∧ X w) ∧ sizedMet enc C.prog fn (OpenSpec.ofChange s) false w args) (s.post enc C.prog fn false true false false) := by
  refine returnsInHanded_of_calls own started noInit witness ?_
  intro w tape i _ hshape _ hok hpre _
  obtain ⟨_, _, _, fn', hfn', _, _, _, _, hval⟩ := hok
  have e : fn' = fn := Option.some.inj (hfn'.symm.trans hfn)
  subst e
  obtain ⟨⟨⟨ds, gs, before, hw, _⟩, hx⟩, hz⟩ := hpre
  have hzw := hz.weights hw
  have hw' := DataW.Whole.of_heap (w' := w.forCall tape i) (by rfl) hw
  have hlt : ∀ x ∈ before, x.block < (w.forCall tape i).heap.size := fun x hx => by simpa using hw'.lt x hx
  have hwhole := hw'
  obtain ⟨p, q, hA, hV, hpq, _, _⟩ := hw'
  have hVn : gs = [] ∧ q = [] := by
    rw [hs] at hV
    cases gs with
    | nil => exact ⟨rfl, hV⟩
    | cons g gs => exact absurd hV (by simp [DataW.TrodVars])
  obtain ⟨rfl, rfl⟩ := hVn
  have hzw2 : (DataW.weightsEach C.prog fn'.params.toList ds).all (· ≤ reachBytes) = true := by
    rw [hs, List.append_nil] at hzw
    simpa [OpenSpec.ofChange, OpenSpec.bare, ChangeSpec.plain, DataSpec.varTypes] using hzw
  rw [List.append_nil] at hpq
  subst hpq
  refine (contract (w.forCall tape i) w.heap.size i.args ds before hshape hval hA (hX _ _ (by rfl) hx) hzw2).mono fun e W' ⟨he, hb⟩ => ?_
  subst he
  have hlen := trodAll_len _ _ _ _ hA
  have hsp : s.fn H (ds ++ []) = { results := [.lit (.bool true)], args := ds } := by rw [List.append_nil, hs]; exact hspec ds hlen
  have hr' : ∀ t ∈ fn'.params.toList, C.prog.readableRec t = true ∧ t < C.prog.types.size := fun t ht => by
    have := List.all_eq_true.1 hr t ht
    simpa using this
  refine ChangeSpec.post_blind ⟨ds, [], before, [], before, [], hwhole, ?_, ?_, ?_, ?_, fun h => by cases h⟩
  · rw [hsp, hres]
    exact trodAll_mk1 (shut_bool htb _)
  · rw [hsp]
    exact trodAll_below hl hb _ _ _ _ hr' hA hlt
  · rw [hsp, hs]
    exact rfl
  · exact hb.frame _
end
end Go.Proofs.Ytpiadcfejbnonaa
/-
  Regions that draw their order, walked operation by operation by an invariant: what each operation leaves is said by a fact that lasts; no order is looked at. Conditions: none.
-/
namespace Go.Proofs.Ytpiadcfejbnonaa
set_option linter.unusedVariables false
set_option linter.unusedSimpArgs false
set_option linter.unusedVariables false
set_option linter.unusedSimpArgs false
set_option linter.unusedVariables false
set_option linter.unusedSimpArgs false
set_option maxRecDepth 100000
open Go.RowKit

/-- A fact on a value that lasts while nothing old is written. -/
structure Fact where
  p : Value → World → Prop
  mono : ∀ (v : Value) (W W' : World), p v W → Below W.heap.size W W' → p v W'
def anyF : Fact := ⟨fun _ _ => True, fun _ _ _ _ _ => trivial⟩
def isF (u : Value) : Fact := ⟨fun v _ => v = u, fun _ _ _ h _ => h⟩
def upd (x : Nat → Value) (i : Nat) (v : Value) : Nat → Value := fun j => if j = i then v else x j
/-- Each operation waits for earlier ones alone. -/
def backB (ops : Array Oper) : Bool := (List.range ops.size).all fun j => match ops[j]? with | some o => o.after.all fun e => decide (e.on < j) | none => true
def waits (o : Oper) (j : Nat) : Bool := o.after.any fun e => e.on == j && Region.binds .any e
section
variable {P : Program} {ops : Array Oper} {Q : Exit → Act → World → Prop} {md : Region.Mode}
theorem ready_nil {l : Array Bool} (hb : backB ops = true) (hr : Region.ready md ops l = []) (hs : l.size = ops.size) : ∀ j, j < ops.size → l.getD j false = true := by
  intro j
  induction j using Nat.strongRecOn with
  | _ j ih =>
    intro hj
    cases h : l.getD j false
    · exfalso
      have hm : j ∈ Region.ready md ops l := by
        refine mem_ready.2 ⟨?_, ops[j], Array.getElem?_eq_getElem hj, fun e he _ => ?_⟩
        · simp [hs, hj] at h ⊢; exact h
        · have h1 := List.all_eq_true.1 hb j (List.mem_range.2 hj)
          rw [Array.getElem?_eq_getElem hj] at h1
          have h2 := Array.all_eq_true_iff_forall_mem.1 h1 e he
          have h3 : e.on < j := by simpa using h2
          exact ih e.on h3 (by omega)
      rw [hr] at hm; cases hm
    · rfl
theorem wpAny_inv {I : Array Bool → Act → World → Prop} (hsz : ∀ l a w, I l a w → l.size = ops.size) (hend : ∀ l a w, I l a w → Region.ready md ops l = [] → Q .normal a w)
    (hstep : ∀ l a w, I l a w → ∀ i ∈ Region.ready md ops l, wpOp P ops Q i (I (l.setIfInBounds i true)) a w) :
    ∀ (fuel : Nat) (l : Array Bool) (a : Act) (w : World), ops.size ≤ l.toList.count true + fuel → I l a w → wpAny P md ops Q fuel l a w
  | 0, l, a, w, hc, hI => by
    have hr : Region.ready md ops l = [] := by
      refine List.eq_nil_iff_forall_not_mem.2 fun j hj => ?_
      obtain ⟨h1, o, ho, _⟩ := mem_ready.1 hj
      have hlt : j < ops.size := (Array.getElem?_eq_some_iff.1 ho).1
      have hs := hsz l a w hI
      have hl : l.toList.length = ops.size := by simpa using hs
      have hle := List.count_le_length (a := true) (l := l.toList)
      have hall := List.count_eq_length.1 (show l.toList.count true = l.toList.length by omega)
      have hj2 : j < l.size := by omega
      have hm := hall l[j] (by simp)
      simp [hj2] at h1
      rw [h1] at hm; cases hm
    exact ⟨hr, hend l a w hI hr⟩
  | fuel + 1, l, a, w, hc, hI => ⟨fun h => hend l a w hI h, fun i hi => wpOp_mono (fun a' w' h' => wpAny_inv hsz hend hstep fuel _ a' w' (by
      obtain ⟨h1, o, ho, _⟩ := mem_ready.1 hi
      have hlt : i < ops.size := (Array.getElem?_eq_some_iff.1 ho).1
      have hs := hsz l a w hI
      have hi2 : i < l.size := by omega
      have h2 : l[i] = false := by simpa [hi2] using h1
      rw [Array.toList_setIfInBounds, List.count_set (by simpa using hi2)]
      have h3 : (l.toList[i]'(by simpa using hi2)) = false := by simpa using h2
      rw [h3, if_neg (by decide), if_pos (by decide)]
      omega) h') (hstep l a w hI i hi)⟩
/-- A region that draws its order: each operation is run once, out of the facts on what it waits for. -/
theorem wp_region_inv {id : Nat} {a : Act} {w : World} (fr : (Nat → Value) → Act) (fs : List Fact) (x0 : Nat → Value)
    (hm : P.follows .mixedOrders = true) (hb : backB ops = true) (ha : a = fr x0)
    (hput : ∀ (x : Nat → Value) (i : Nat) (o : Oper) (v : Value), ops[i]? = some o → (fr x).put o.dst v = fr (upd x i v))
    (hstep : ∀ (i : Nat) (o : Oper), ops[i]? = some o → ∀ (x : Nat → Value) (W : World), Below w.heap.size w W → (∀ j, waits o j = true → (fs.getD j anyF).p (x j) W) →
      ∀ K : Act → World → Prop, Shut (∀ v W', Below W.heap.size W W' → (fs.getD i anyF).p v W' → K ((fr x).put o.dst v) W') → if Region.wanted o (yielded ops (fr x).tmps) = true then Oper.wp P o (fr x) W K Q else K ((fr x).put o.dst undef) W)
    (hend : ∀ (x : Nat → Value) (W : World), Below w.heap.size w W → (∀ i, i < ops.size → (fs.getD i anyF).p (x i) W) → Q .normal (fr x) W) : (Code.region id ops true).wp P Q a w := by
  refine wp_region_any hm ?_
  refine wpAny_inv (I := fun l a' w' => l.size = ops.size ∧ ∃ x, a' = fr x ∧ Below w.heap.size w w' ∧ ∀ i, l.getD i false = true → (fs.getD i anyF).p (x i) w') (fun l a' w' h => h.1) ?_ ?_ ops.size _ a w.drew (by omega) ?_
  · rintro l a' w' ⟨hs, x, rfl, hB, hx⟩ hr
    exact hend x w' hB fun i hi => hx i (ready_nil hb hr hs i hi)
  · rintro l a' w' ⟨hs, x, rfl, hB, hx⟩ i hi
    obtain ⟨h1, o, ho, hw⟩ := mem_ready.1 hi
    refine wpOp_step ho (fun K' hK => ?_)
    refine hstep i o ho x w' hB (fun j hj => ?_) K' ?_
    · obtain ⟨k, hk, h2⟩ := Array.any_eq_true.1 hj
      have he := Array.getElem_mem hk
      generalize o.after[k] = e at *
      simp only [Bool.and_eq_true, beq_iff_eq] at h2
      obtain ⟨rfl, hbd⟩ := h2
      exact hx _ (hw e he hbd)
    · intro v W' hB2 hf
      refine hK _ _ ⟨by simpa using hs, upd x i v, hput x i o v ho, hB.trans (hB2.mono hB.size), fun j hj => ?_⟩
      unfold upd
      by_cases hji : j = i
      · subst hji; rw [if_pos rfl]; exact hf
      · rw [if_neg hji]
        rw [getD_set_ne false (Ne.symm hji)] at hj
        exact (fs.getD j anyF).mono _ _ _ (hx j hj) hB2
  · refine ⟨by simp, x0, ha, Below.drew (Below.refl _ _), fun i hi => ?_⟩
    exfalso
    have h : (Array.replicate ops.size false).getD i false = false := by
      rw [Array.getD_eq_getD_getElem?, Array.getElem?_replicate]
      split <;> rfl
    rw [h] at hi; cases hi
/-- What one operation does, by its run. -/
theorem wp_of_value {o : Oper} {a : Act} {w w' : World} {K : Act → World → Prop} {v : Value} (h : (execOp a.eval o).run P w = .ok (.value v) w') (hk : K (a.put o.dst v) w') : Oper.wp P o a w K Q := by
  unfold Oper.wp; rw [h]; exact hk
theorem wp_of_enter {o : Oper} {a : Act} {w w' : World} {K : Act → World → Prop} {f : FuncId} {args : Array Value} (h : (execOp a.eval o).run P w = .ok (.enter f args) w') (hc : Calls P f args w' fun e w'' => ∃ u, e = .returned u ∧ K (a.put o.dst u) w'') : Oper.wp P o a w K Q := by
  unfold Oper.wp; rw [h]
  refine Calls.mono hc ?_
  rintro e w'' ⟨u, rfl, hk⟩
  exact hk
end
end Go.Proofs.Ytpiadcfejbnonaa
/-
  The same over regions in which an operation names a later one that does not bind it. Conditions: none.
-/
namespace Go.Proofs.Ytpiadcfejbnonaa
set_option linter.unusedVariables false
set_option linter.unusedSimpArgs false
set_option linter.unusedVariables false
set_option linter.unusedSimpArgs false
set_option linter.unusedVariables false
set_option linter.unusedSimpArgs false
set_option maxRecDepth 100000
open Go.RowKit

/-- Each operation waits for earlier ones alone, as far as the order that is drawn binds it. -/
def backV (ops : Array Oper) : Bool := (List.range ops.size).all fun j => match ops[j]? with | some o => o.after.all fun e => !(Region.binds .any e) || decide (e.on < j) | none => true
section
variable {P : Program} {ops : Array Oper} {Q : Exit → Act → World → Prop}
theorem ready_nilV {l : Array Bool} (hb : backV ops = true) (hr : Region.ready .any ops l = []) (hs : l.size = ops.size) : ∀ j, j < ops.size → l.getD j false = true := by
  intro j
  induction j using Nat.strongRecOn with
  | _ j ih =>
    intro hj
    cases h : l.getD j false
    · exfalso
      have hm : j ∈ Region.ready .any ops l := by
        refine mem_ready.2 ⟨?_, ops[j], Array.getElem?_eq_getElem hj, fun e he hbd => ?_⟩
        · simp [hs, hj] at h ⊢; exact h
        · have h1 := List.all_eq_true.1 hb j (List.mem_range.2 hj)
          rw [Array.getElem?_eq_getElem hj] at h1
          have h2 := Array.all_eq_true_iff_forall_mem.1 h1 e he
          have h3 : e.on < j := by
            simp only [Bool.or_eq_true, Bool.not_eq_true', decide_eq_true_eq] at h2
            rcases h2 with h2 | h2
            · rw [hbd] at h2; cases h2
            · exact h2
          exact ih e.on h3 (by omega)
      rw [hr] at hm; cases hm
    · rfl
/-- A region that draws its order: each operation is run once, out of the facts on what it waits for. -/
theorem wp_region_invV {id : Nat} {a : Act} {w : World} (fr : (Nat → Value) → Act) (fs : List Fact) (x0 : Nat → Value)
    (hm : P.follows .mixedOrders = true) (hb : backV ops = true) (ha : a = fr x0)
    (hput : ∀ (x : Nat → Value) (i : Nat) (o : Oper) (v : Value), ops[i]? = some o → (fr x).put o.dst v = fr (upd x i v))
    (hstep : ∀ (i : Nat) (o : Oper), ops[i]? = some o → ∀ (x : Nat → Value) (W : World), Below w.heap.size w W → (∀ j, waits o j = true → (fs.getD j anyF).p (x j) W) →
      ∀ K : Act → World → Prop, Shut (∀ v W', Below W.heap.size W W' → (fs.getD i anyF).p v W' → K ((fr x).put o.dst v) W') → if Region.wanted o (yielded ops (fr x).tmps) = true then Oper.wp P o (fr x) W K Q else K ((fr x).put o.dst undef) W)
    (hend : ∀ (x : Nat → Value) (W : World), Below w.heap.size w W → (∀ i, i < ops.size → (fs.getD i anyF).p (x i) W) → Q .normal (fr x) W) : (Code.region id ops true).wp P Q a w := by
  refine wp_region_any hm ?_
  refine wpAny_inv (I := fun l a' w' => l.size = ops.size ∧ ∃ x, a' = fr x ∧ Below w.heap.size w w' ∧ ∀ i, l.getD i false = true → (fs.getD i anyF).p (x i) w') (fun l a' w' h => h.1) ?_ ?_ ops.size _ a w.drew (by omega) ?_
  · rintro l a' w' ⟨hs, x, rfl, hB, hx⟩ hr
    exact hend x w' hB fun i hi => hx i (ready_nilV hb hr hs i hi)
  · rintro l a' w' ⟨hs, x, rfl, hB, hx⟩ i hi
    obtain ⟨h1, o, ho, hw⟩ := mem_ready.1 hi
    refine wpOp_step ho (fun K' hK => ?_)
    refine hstep i o ho x w' hB (fun j hj => ?_) K' ?_
    · obtain ⟨k, hk, h2⟩ := Array.any_eq_true.1 hj
      have he := Array.getElem_mem hk
      generalize o.after[k] = e at *
      simp only [Bool.and_eq_true, beq_iff_eq] at h2
      obtain ⟨rfl, hbd⟩ := h2
      exact hx _ (hw e he hbd)
    · intro v W' hB2 hf
      refine hK _ _ ⟨by simpa using hs, upd x i v, hput x i o v ho, hB.trans (hB2.mono hB.size), fun j hj => ?_⟩
      unfold upd
      by_cases hji : j = i
      · subst hji; rw [if_pos rfl]; exact hf
      · rw [if_neg hji]
        rw [getD_set_ne false (Ne.symm hji)] at hj
        exact (fs.getD j anyF).mono _ _ _ (hx j hj) hB2
  · refine ⟨by simp, x0, ha, Below.drew (Below.refl _ _), fun i hi => ?_⟩
    exfalso
    have h : (Array.replicate ops.size false).getD i false = false := by
      rw [Array.getD_eq_getD_getElem?, Array.getElem?_replicate]
      split <;> rfl
    rw [h] at hi; cases hi
end
end Go.Proofs.Ytpiadcfejbnonaa
