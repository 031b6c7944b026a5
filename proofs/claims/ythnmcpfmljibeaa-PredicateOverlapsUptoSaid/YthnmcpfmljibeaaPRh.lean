import Derived.Test.YthnmcpfmljibeaaPRa
import Derived.Test.YthnmcpfmljibeaaPRd
import Derived.Test.YthnmcpfmljibeaaPKb
import Derived.WalkKit
import Derived.WalkSpells
import Derived.WalkLawsBesides
import Derived.Deep.QuietTactic
import Derived.BigQuiet
import Derived.Handy
import Derived.Lib.Hide
import Derived.Test.YthnmcpfmljibeaaPX
/-
  Conditions, by the reference. Conditions: lengths, a bounded depth.
-/
namespace Go.Proofs.Ythnmcpfmljibeaa
set_option maxRecDepth 100000
set_option linter.unusedVariables false
set_option linter.unusedSimpArgs false
open Go.RowKit

/-- What the reference's Conjuncts returns reads as trees. -/
theorem rdE_J {w0 w' : World} {B L D c : Nat} {ad : Addr} {ps : List ExU} (hk : ∀ p ∈ ps, RdE w0 L B D p.2 p.1.args) (hb : Below B w0 w') (hB : B ≤ w'.heap.size) (hc : ∀ j u, (flatE ps)[j]? = some u → w'.cell? (ad.add j) = some u) (hl : ps.length ≤ 1099511627776) :
    RdE w' 0 w'.heap.size (D + 1) (.slice (some ad) ps.length c) (ps.map (·.1)) := by
  refine ⟨some ad, c, by rw [List.length_map], by rw [List.length_map]; exact hl, fun k e hk2 => ?_⟩
  rw [List.getElem?_map] at hk2
  obtain ⟨p, hp, rfl⟩ := Option.map_eq_some_iff.1 hk2
  have G := fun j hj u hu => hc (k * 7 + j) u ((flatE_get ps k p hp j hj).trans hu)
  have hadd : ∀ j, j ≠ 0 → ad.add (k * 7 + j) = ⟨(ad.add (k * 7)).block, (ad.add (k * 7)).off + j, none⟩ := fun j hj => by
    rw [add_blk]
    unfold Addr.add
    rw [if_neg (by omega)]
    split <;> simp <;> omega
  have g0 := G 0 (by decide) _ rfl
  rw [Nat.add_zero] at g0
  have hlt := World.block_lt_of_cell? w' _ g0
  rw [add_blk] at hlt
  refine ⟨ad, p.2, rfl, Nat.zero_le _, hlt, ?_, ((hk p (List.mem_of_getElem? hp)).below hb).more hB (Nat.zero_le _)⟩
  refine ⟨g0, ?_, ?_, ?_, ?_, ?_, ?_⟩
  · rw [← hadd 1 (by decide)]; exact G 1 (by decide) _ rfl
  · rw [← hadd 2 (by decide)]; exact G 2 (by decide) _ rfl
  · rw [← hadd 3 (by decide)]; exact G 3 (by decide) _ rfl
  · rw [← hadd 4 (by decide)]; exact G 4 (by decide) _ rfl
  · rw [← hadd 5 (by decide)]; exact G 5 (by decide) _ rfl
  · rw [← hadd 6 (by decide)]; exact G 6 (by decide) _ rfl
end Go.Proofs.Ythnmcpfmljibeaa
/-
  The reference's narrowed and on. Conditions: valid values, lengths.
-/
namespace Go.Proofs.Ythnmcpfmljibeaa
set_option maxRecDepth 100000
set_option linter.unusedVariables false
set_option linter.unusedSimpArgs false
open Go.RowKit

/-- A range narrowed by a condition with a number. -/
def narR (r : Int × Int) (c : Cnd) : Int × Int :=
  if c.op = 7 then (max r.1 c.v.2.1, min r.2 c.v.2.1)
  else if c.op = 9 then (r.1, min r.2 (c.v.2.1 - 1))
  else if c.op = 10 then (r.1, min r.2 c.v.2.1)
  else if c.op = 11 then (max r.1 (c.v.2.1 + 1), r.2)
  else (max r.1 c.v.2.1, r.2)
end Go.Proofs.Ythnmcpfmljibeaa
/-
  The reference's bounds and Window. Conditions: valid values, lengths.
-/
namespace Go.Proofs.Ythnmcpfmljibeaa
set_option maxRecDepth 100000
set_option linter.unusedVariables false
set_option linter.unusedSimpArgs false
open Go.RowKit

/-- What bounds answers. -/
def bndR : List Cnd → Int × Int → (Int × Int) × Bool
  | [], r => (r, true)
  | c :: l, r => if c.v.1 ≠ 1 then (r, false) else bndR l (narR r c)
end Go.Proofs.Ythnmcpfmljibeaa
/-
  The reference's Window. Conditions: lengths.
-/
namespace Go.Proofs.Ythnmcpfmljibeaa
set_option maxRecDepth 100000
set_option linter.unusedVariables false
set_option linter.unusedSimpArgs false
open Go.RowKit

def winQ (a b : (Int × Int) × Bool) : (Int × Int) × Bool :=
  if a.2 = false ∨ b.2 = false ∨ a.1.2 < a.1.1 ∨ b.1.2 < b.1.1 ∨ b.1.2 ≤ a.1.1 then ((0, 0), false)
  else if a.1.2 < b.1.1 then ((a.1.2, b.1.1), true) else ((a.1.1, b.1.2), true)
def winR (l : List Cnd) (f t : Int) : (Int × Int) × Bool := winQ (bndR (onC l f) (0, 1099511627775)) (bndR (onC l t) (1, 1099511627776))
end Go.Proofs.Ythnmcpfmljibeaa
