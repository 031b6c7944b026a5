/-
  Small words for this seat's texts: what a call leaves as it was (cells and marks below the old heap), and what validity of a period means in numbers. Conditions: none.
-/
import Derived.WalkKit
import Derived.Lib.Hide
namespace Go.Proofs.YtclpemmpckjemaaDoor
open Go.RowKit

theorem bcell {W w1 : World} (hb : Below W.heap.size W w1) : (∀ b o, b < W.heap.size → w1.cell? ⟨b, o, none⟩ = W.cell? ⟨b, o, none⟩) ∧ (∀ b o, b < W.heap.size → w1.frozen? ⟨b, o, none⟩ = W.frozen? ⟨b, o, none⟩) :=
  ⟨fun b o h => hb.cell (p := ⟨b, o, none⟩) h, fun b o h => hb.frozen (p := ⟨b, o, none⟩) h⟩

theorem bcellB {B : Nat} {W w1 : World} (hb : Below B W w1) : (∀ b o, b < B → w1.cell? ⟨b, o, none⟩ = W.cell? ⟨b, o, none⟩) ∧ (∀ b o, b < B → w1.frozen? ⟨b, o, none⟩ = W.frozen? ⟨b, o, none⟩) :=
  ⟨fun b o h => hb.cell (p := ⟨b, o, none⟩) h, fun b o h => hb.frozen (p := ⟨b, o, none⟩) h⟩

/-- A period's validity. -/
def vld (a b : Int) : Bool := decide (0 ≤ a) && decide (a < b) && decide (b ≤ 1099511627776)
def cnt (a b t : Int) : Bool := vld a b && decide (a ≤ t) && decide (t < b)
def cvr (a b c d : Int) : Bool := vld a b && vld c d && decide (a ≤ c) && decide (d ≤ b)
def ovl (a b c d : Int) : Bool := vld a b && vld c d && decide (a < d) && decide (c < b)
def adj (a b c d : Int) : Bool := vld a b && vld c d && ((b == c) || (d == a))
def prd (a b : Int) : Value := .agg #[.int .i64 a, .int .i64 b]
end Go.Proofs.YtclpemmpckjemaaDoor
