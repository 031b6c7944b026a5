import Derived.Test.YteihjneeiojgaaaSExUc
import Derived.WalkKit
import Derived.WalkSpells
import Derived.WalkLawsBesides
import Derived.Deep.QuietTactic
import Derived.BigQuiet
import Derived.Handy
import Derived.Lib.Hide
/-
  The reference's Columns. Conditions: lengths, a bounded depth.
-/
namespace Go.Proofs.Yteihjneeiojgaaa
set_option maxRecDepth 100000
set_option linter.unusedVariables false
set_option linter.unusedSimpArgs false
open Go.RowKit

def stepC (f : Ex → List Int) (acc : List Int) (a : Ex) : List Int := (f a).foldl insI acc
/-- The columns, as the reference gathers them. -/
def refE : Nat → Ex → List Int
  | 0, _ => []
  | d + 1, e => e.args.foldl (stepC (refE d)) (colH e)
theorem stepC_len (f g : Ex → List Int) (h : ∀ a, (f a).length ≤ (g a).length) : ∀ (es : List Ex) (acc : List Int), (es.foldl (stepC f) acc).length ≤ acc.length + (es.flatMap g).length
  | [], acc => by simp
  | y :: es, acc => by
    have h1 := stepC_len f g h es (stepC f acc y)
    have h2 : (stepC f acc y).length ≤ acc.length + (f y).length := foldI_len (f y) acc
    have h3 := h y
    rw [List.foldl_cons, List.flatMap_cons, List.length_append]
    omega
theorem stepC_asc (f g : Ex → List Int) (h : ∀ a x, x ∈ f a ↔ x ∈ g a) : ∀ (es : List Ex) (acc : List Int), AscI acc → AscI (es.foldl (stepC f) acc) ∧ ∀ x, x ∈ es.foldl (stepC f) acc ↔ x ∈ acc ∨ x ∈ es.flatMap g
  | [], acc, ha => ⟨ha, fun x => by simp⟩
  | y :: es, acc, ha => by
    obtain ⟨h1, h2⟩ := foldI_asc (f y) acc ha
    obtain ⟨h3, h4⟩ := stepC_asc f g h es (stepC f acc y) h1
    refine ⟨h3, fun x => ?_⟩
    rw [List.foldl_cons, h4 x, show (x ∈ stepC f acc y ↔ x ∈ acc ∨ x ∈ f y) from h2 x, h y x, List.flatMap_cons, List.mem_append, or_assoc]
theorem colH_asc (e : Ex) : AscI (colH e) := by
  unfold colH AscI
  split <;> simp
theorem refE_asc : ∀ (d : Nat) (e : Ex), AscI (refE d e) ∧ ∀ x, x ∈ refE d e ↔ x ∈ colE d e
  | 0, e => ⟨by simp [refE, AscI], fun x => by simp [refE, colE]⟩
  | d + 1, e => by
    obtain ⟨h1, h2⟩ := stepC_asc (refE d) (colE d) (fun a => (refE_asc d a).2) e.args (colH e) (colH_asc e)
    refine ⟨h1, fun x => ?_⟩
    show x ∈ e.args.foldl (stepC (refE d)) (colH e) ↔ x ∈ colH e ++ e.args.flatMap (colE d)
    rw [h2 x, List.mem_append]
theorem refE_eq (d : Nat) (e : Ex) : refE d e = colS (colE d e) :=
  asc_ext _ _ (refE_asc d e).1 (colS_asc _).1 fun x => ((refE_asc d e).2 x).trans ((colS_asc _).2 x).symm
theorem refE_len : ∀ (d : Nat) (e : Ex), (refE d e).length ≤ (colE d e).length
  | 0, _ => Nat.zero_le _
  | d + 1, e => by
    have h := stepC_len (refE d) (colE d) (refE_len d) e.args (colH e)
    show (e.args.foldl (stepC (refE d)) (colH e)).length ≤ (colH e ++ e.args.flatMap (colE d)).length
    rw [List.length_append]
    exact h
theorem ownI_more {w : World} {base base' n : Nat} {v : Value} {xs : List Value} (h : w.ownsRow base 3 1 v n xs) (hb : base' ≤ base) : w.ownsRow base' 3 1 v n xs := by
  refine ⟨h.1, ?_⟩
  rcases h.2 with h0 | ⟨g, cap, cur, rfl, hbg, hr⟩
  · exact .inl h0
  · exact .inr ⟨g, cap, cur, rfl, Nat.le_trans hb hbg, hr⟩
theorem foldl_take {α : Type} (f : List Int → α → List Int) (es : List α) (a : List Int) (k : Nat) (y : α) (h : es[k]? = some y) : (es.take (k + 1)).foldl f a = f ((es.take k).foldl f a) y := by
  rw [List.take_add_one, h, List.foldl_append]
  rfl
end Go.Proofs.Yteihjneeiojgaaa
