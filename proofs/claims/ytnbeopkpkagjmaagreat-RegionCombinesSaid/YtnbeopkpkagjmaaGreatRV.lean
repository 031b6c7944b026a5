import Derived.Test.YtnbeopkpkagjmaaGreatRE
import Derived.Test.YtnbeopkpkagjmaaGreatRF
import Derived.WalkKit
import Derived.WalkSpells
import Derived.WalkLawsBesides
import Derived.Deep.QuietTactic
import Derived.BigQuiet
import Derived.Handy
import Derived.Lib.Hide
/-
  What strips visits, and the contract of a function that it is given: a relation that each visit carries on, over a set of blocks of the visitor's own. Conditions: none.
-/
namespace Go.Proofs.YtnbeopkpkagjmaaGreat
set_option maxRecDepth 100000
set_option linter.unusedVariables false
set_option linter.unusedSimpArgs false
open Go.RowKit

abbrev St2 := (Int × Int) × List (Int × Int) × List (Int × Int)
def visW (ga gb : Int → List (Int × Int)) (D : List Bo) : Nat → List St2
  | 0 => []
  | k + 1 => visW ga gb D k ++ (if 0 < k ∧ atB D (k - 1) < atB D k then [((atB D (k - 1), atB D k), ga (atB D (k - 1)), gb (atB D (k - 1)))] else [])
def toSt (f : Bool → Bool → Bool) (z : St2) : St := (z.1, comb f z.2.1 z.2.2)
theorem visW_map (f : Bool → Bool → Bool) (ga gb : Int → List (Int × Int)) (D : List Bo) : ∀ k, (visW ga gb D k).map (toSt f) = visS (fun x => comb f (ga x) (gb x)) D k
  | 0 => rfl
  | k + 1 => by
    rw [visW, visS, List.map_append, visW_map f ga gb D k]
    congr 1
    split <;> rfl
theorem visW_len (ga gb : Int → List (Int × Int)) (D : List Bo) : ∀ k, (visW ga gb D k).length ≤ k
  | 0 => by simp [visW]
  | k + 1 => by
    have := visW_len ga gb D k
    rw [visW, List.length_append]
    split <;> simp <;> omega
theorem visW_is {f : Bool → Bool → Bool} (hf : f false false = false) {a b : List Rc} {D : List Bo} (h : Swp a b D) :
    (((visW (slcR a) (slcR b) D D.length).map (toSt f)).foldl vstep ([], [])).1 = cmbR f a b := by
  rw [visW_map, show (fun x => comb f (slcR a x) (slcR b x)) = slcC f a b from funext fun x => slcC_slc hf a b x]
  exact combine_is f h
theorem visW_no {ga gb : Int → List (Int × Int)} {D : List Bo} {k : Nat} (h : ¬ (0 < k ∧ atB D (k - 1) < atB D k)) : visW ga gb D (k + 1) = visW ga gb D k := by
  rw [visW, if_neg h, List.append_nil]
theorem visW_yes {ga gb : Int → List (Int × Int)} {D : List Bo} {k : Nat} (h : 0 < k ∧ atB D (k - 1) < atB D k) : visW ga gb D (k + 1) = visW ga gb D k ++ [((atB D (k - 1), atB D k), ga (atB D (k - 1)), gb (atB D (k - 1)))] := by
  rw [visW, if_pos h]
theorem atB_get {D : List Bo} {k : Nat} {d : Bo} (h : D[k]? = some d) : atB D k = d.1 := by
  obtain ⟨hlt, rfl⟩ := List.getElem?_eq_some_iff.1 h
  exact atB_is hlt

/-! Lengths. -/
theorem atS_len (l : List Rc) (x : Int) : (atS l x).length ≤ l.length := by
  unfold atS; rw [List.length_map]; exact List.length_filter_le _ _
theorem opn_len (j : Int) : ∀ (D : List Bo), (opn j D).length ≤ D.length := by
  have h : ∀ (D : List Bo) (o : List (Int × Int)), (D.foldl (ostep j) o).length ≤ o.length + D.length := by
    intro D
    induction D with
    | nil => intro o; simp
    | cons d D ih =>
      intro o
      have h1 := ih (ostep j o d)
      have h2 : (ostep j o d).length ≤ o.length + 1 := by
        unfold ostep
        split
        · split
          · unfold insP
            have : o.length = (o.takeWhile (fun q => ltP q d.2.2.2)).length + (o.dropWhile (fun q => ltP q d.2.2.2)).length := by rw [← List.length_append, List.takeWhile_append_dropWhile]
            rw [List.length_append, List.length_cons]; omega
          · unfold remP
            have : o.length = (o.takeWhile (fun q => ltP q d.2.2.2)).length + (o.dropWhile (fun q => ltP q d.2.2.2)).length := by rw [← List.length_append, List.takeWhile_append_dropWhile]
            rw [List.length_append, List.length_drop]; omega
        · omega
      rw [List.foldl_cons, List.length_cons]; omega
  intro D
  have := h D []
  unfold opn; simpa using this

/-- Nothing that is older than N, or is in P, has changed. -/
structure KeepS (N : Nat) (P : Nat → Prop) (w w' : World) : Prop where
  os : w'.os = w.os
  tape : w'.tape = w.tape
  output : w'.output = w.output
  size : w.heap.size ≤ w'.heap.size
  block : ∀ g, g < w.heap.size → (g < N ∨ P g) → w'.heap[g]? = w.heap[g]?
/-- Nothing from N on has changed that is not in P. -/
structure KeepV (N : Nat) (P : Nat → Prop) (w w' : World) : Prop where
  os : w'.os = w.os
  tape : w'.tape = w.tape
  output : w'.output = w.output
  size : w.heap.size ≤ w'.heap.size
  block : ∀ g, g < w.heap.size → N ≤ g → ¬ P g → w'.heap[g]? = w.heap[g]?
theorem KeepS.of_below {N : Nat} {P : Nat → Prop} {w w' : World} (h : Below w.heap.size w w') : KeepS N P w w' := ⟨h.os, h.tape, h.output, h.size, fun g hg _ => h.block g hg⟩
theorem KeepS.trans {N : Nat} {P : Nat → Prop} {w1 w2 w3 : World} (h : KeepS N P w1 w2) (k : KeepS N P w2 w3) : KeepS N P w1 w3 :=
  ⟨k.os.trans h.os, k.tape.trans h.tape, k.output.trans h.output, Nat.le_trans h.size k.size, fun g hg hp => (k.block g (Nat.lt_of_lt_of_le hg h.size) hp).trans (h.block g hg hp)⟩
theorem KeepS.of_grown {N : Nat} {P : Nat → Prop} {w w' : World} {row : Option Nat} (h : w.grownBy w' row) (hr : ∀ g, row = some g → N ≤ g ∧ ¬ P g) : KeepS N P w w' :=
  ⟨h.os, h.tape, h.output, h.size, fun g hg hp => h.block g hg fun e => by
    have := hr g e.symm
    rcases hp with hp | hp
    · omega
    · exact this.2 hp⟩
theorem KeepS.setCell {N : Nat} {P : Nat → Prop} {w w' : World} (h : KeepS N P w w') {p : Addr} (hn : N ≤ p.block) (hp : ¬ P p.block) (u : Value) : KeepS N P w (w'.setCell p u) :=
  ⟨h.os, h.tape, h.output, by rw [show (w'.setCell p u).heap.size = w'.heap.size from World.size_setCell _ _ _]; exact h.size, fun g hg hq => by
    rw [Below.heap_setCell w' p u g (fun e => by
      subst e
      rcases hq with hq | hq
      · omega
      · exact hp hq)]
    exact h.block g hg hq⟩
theorem KeepV.own {N : Nat} {P : Nat → Prop} {w w' : World} (h : KeepV N P w w') {g : Nat} {t : TypeId} {cs : Array Value} (o : Own w g t cs) (hn : N ≤ g) (hp : ¬ P g) : Own w' g t cs := by
  have hlt := o.lt
  unfold Own at o ⊢
  rw [h.block g hlt hn hp]; exact o
theorem KeepV.row {N : Nat} {P : Nat → Prop} {w w' : World} (h : KeepV N P w w') {base : Nat} {e : TypeId} {size n : Nat} {v : Value} {xs : List Value} (hr : w.ownsRow base e size v n xs) (hb : N ≤ base) (hp : ∀ g, v.ownBlock = some g → ¬ P g) : w'.ownsRow base e size v n xs := by
  refine ⟨hr.1, ?_⟩
  rcases hr.2 with h0 | ⟨g, cap, cur, rfl, hb', hh, rest⟩
  · exact .inl h0
  · refine .inr ⟨g, cap, cur, rfl, hb', ?_, rest⟩
    rw [h.block g (Array.getElem?_eq_some_iff.1 hh).1 (by omega) (hp g rfl)]
    exact hh
theorem KeepV.cell {N : Nat} {P : Nat → Prop} {w w' : World} (h : KeepV N P w w') {a : Addr} (hl : a.block < w.heap.size) (hn : N ≤ a.block) (hp : ¬ P a.block) : w'.cell? a = w.cell? a :=
  World.cell?_of_block (h.block a.block hl hn hp)
theorem KeepV.rdO {N : Nat} {P : Nat → Prop} {w w' : World} (h : KeepV N P w w') {L B : Nat} {v : Value} {l : List Bo} (hr : RdO w L B v l) (hn : N ≤ L) (hB : B ≤ w.heap.size) (hp : ∀ g, L ≤ g → g < B → ¬ P g) : RdO w' L B v l := by
  obtain ⟨A, c, hv, hl, hc⟩ := hr
  refine ⟨A, c, hv, hl, fun k n hk => ?_⟩
  obtain ⟨ad, h1, h0, h2, h3, h4, h5, h6, h7⟩ := hc k n hk
  have g := fun j => h.cell (a := ad.add j) (by rw [add_block]; omega) (by rw [add_block]; omega) (by rw [add_block]; exact hp _ h0 h2)
  exact ⟨ad, h1, h0, h2, (g _).trans h3, (g _).trans h4, (g _).trans h5, (g _).trans h6, (g _).trans h7⟩
/-- A visitor: its function's number, what it captures, its relation over what it has been told and the blocks of its own. -/
structure VisC (N F : Nat) (cs : Array Value) (R : List St2 → (Nat → Prop) → World → Prop) : Prop where
  enters : ∀ args w, (callFunc F args).run Tryz.prog w = .ok (.enter F args) w
  keeps : ∀ zs P W W', R zs P W → KeepS N P W W' → R zs P W'
  lt : ∀ zs P W, R zs P W → ∀ g, P g → g < W.heap.size
  call : ∀ zs P W (s : Int × Int) (x y : List (Int × Int)) (u v : Value) (L : Nat), R zs P W → N ≤ L → L ≤ W.heap.size → (∀ g, P g → g < L) → RdP W L W.heap.size u x → RdP W L W.heap.size v y → spB (-1) x = true → spB (-1) y = true → x.length ≤ 12000 → y.length ≤ 12000 → zs.length ≤ 12000 →
    Calls Tryz.prog F (#[.agg #[.int .i64 s.1, .int .i64 s.2], u, v] ++ cs) W fun e W' => e = .returned (.tuple #[]) ∧ ∃ P', R (zs ++ [(s, x, y)]) P' W' ∧ (∀ g, P' g → P g ∨ L ≤ g) ∧ KeepV N P W W'
end Go.Proofs.YtnbeopkpkagjmaaGreat
