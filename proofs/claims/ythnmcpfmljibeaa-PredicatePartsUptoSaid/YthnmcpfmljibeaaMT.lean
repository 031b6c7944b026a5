import Derived.Test.YthnmcpfmljibeaaMC
import Derived.Sort.Statements
import Derived.WalkKit
import Derived.WalkSpells
import Derived.WalkLawsBesides
import Derived.Deep.QuietTactic
import Derived.BigQuiet
import Derived.Handy
import Derived.Lib.Hide
import Derived.Shelf.GgSortFunc.Insertion
import Derived.Laws.AppendOwnNone
import Derived.Laws.MakeOwn
import Derived.Laws.OwnMore
/-
  The order of rows is a strict total order (mathematics). Conditions: none.
-/
namespace Go.Proofs.Ythnmcpfmljibeaa
set_option maxRecDepth 100000
set_option linter.unusedVariables false
set_option linter.unusedSimpArgs false
open Go.RowKit Go.Sort

end Go.Proofs.Ythnmcpfmljibeaa
/-
  The order of rows by columns is a strict total order; sorted lists (mathematics). Conditions: none.
-/
namespace Go.Proofs.Ythnmcpfmljibeaa
set_option maxRecDepth 100000
set_option linter.unusedVariables false
set_option linter.unusedSimpArgs false
open Go.RowKit Go.Sort

end Go.Proofs.Ythnmcpfmljibeaa
/-
  Fits of the program: what it answers. Conditions: lengths.
-/
namespace Go.Proofs.Ythnmcpfmljibeaa
set_option maxRecDepth 100000
set_option linter.unusedVariables false
set_option linter.unusedSimpArgs false
open Go.RowKit

theorem val_cells {W : World} {g : Nat} {x y z : Value} (hg : g < W.heap.size) (o : Own W g 23 #[x, y, z]) : (∀ p : After W, p.w.cell? ⟨g, 0, none⟩ = some x) ∧ (∀ p : After W, p.w.cell? ⟨g, 1, none⟩ = some y) ∧ (∀ p : After W, p.w.cell? ⟨g, 2, none⟩ = some z) :=
  ⟨after_cell hg (o.cell 0), after_cell hg (o.cell 1), after_cell hg (o.cell 2)⟩
/-- The slice v holds the numbers zs. -/
def RdI (w : World) (L B : Nat) (v : Value) (zs : List Int) : Prop :=
  ∃ A c, v = .slice A zs.length c ∧ zs.length ≤ 9223372036854775807 ∧ ∀ (k : Nat) (z : Int), zs[k]? = some z → ∃ ad : Addr, A = some ad ∧ L ≤ ad.block ∧ ad.block < B ∧ w.cell? (ad.add k) = some (.int .i64 z)
theorem RdI.below {w w' : World} {L B : Nat} {v : Value} {zs : List Int} (h : RdI w L B v zs) (hb : Below B w w') : RdI w' L B v zs := by
  obtain ⟨A, c, hv, hl, hc⟩ := h
  exact ⟨A, c, hv, hl, fun k n hk => let ⟨ad, h1, h0, h2, h3⟩ := hc k n hk; ⟨ad, h1, h0, h2, (hb.cell (p := ad.add k) (by rw [add_block]; exact h2)).trans h3⟩⟩
theorem RdI.more {w : World} {L B B' : Nat} {v : Value} {zs : List Int} (h : RdI w L B v zs) (hB : B ≤ B') : RdI w L B' v zs := by
  obtain ⟨A, c, hv, hl, hc⟩ := h
  exact ⟨A, c, hv, hl, fun k n hk => let ⟨ad, h1, h0, h2, h3⟩ := hc k n hk; ⟨ad, h1, h0, Nat.lt_of_lt_of_le h2 hB, h3⟩⟩
theorem RdI.step {w w' : World} {L B : Nat} {v : Value} {zs : List Int} (h : RdI w L B v zs) (hb : Below w.heap.size w w') (hB : B ≤ w.heap.size) : RdI w' L w'.heap.size v zs :=
  ((h.more hB).below hb).more hb.size
end Go.Proofs.Ythnmcpfmljibeaa
/-
  Comparing rows, the program's side, with the world that is left said exactly enough for a callback of slices.SortFunc. Conditions: lengths. (Written by mkTuG.py.)
-/
namespace Go.Proofs.Ythnmcpfmljibeaa
set_option maxRecDepth 100000
set_option linter.unusedVariables false
set_option linter.unusedSimpArgs false
open Go.RowKit

/-- Nothing old is written, and the draws don't go back. -/
def GB (w w' : World) : Prop := Below w.heap.size w w' ∧ w.drawn ≤ w'.drawn
theorem GB.refl (w : World) : GB w w := ⟨Below.refl _ _, Nat.le_refl _⟩
theorem GB.trans {w a b : World} (h : GB w a) (k : GB a b) : GB w b := ⟨h.1.trans (k.1.mono h.1.size), Nat.le_trans h.2 k.2⟩
/-- A world behind W in which nothing old is written and the draws don't go back. -/
structure AftD (W : World) where
  w : World
  h : GB W w
instance {W : World} : Nonempty (AftD W) := ⟨⟨W, GB.refl _⟩⟩
instance {W : World} : Inhabited (AftD W) := ⟨⟨W, GB.refl _⟩⟩
end Go.Proofs.Ythnmcpfmljibeaa
/-
  Lists of rows as they are read; slices.Clone of values; rows of slices that are made. Conditions: lengths. (Written by mkTuR.py.)
-/
namespace Go.Proofs.Ythnmcpfmljibeaa
set_option maxRecDepth 100000
set_option linter.unusedVariables false
set_option linter.unusedSimpArgs false
open Go.RowKit

/-- The slice u holds the values p, and is nil only without room. -/
def RdN (w : World) (L B : Nat) (u : Value) (p : List Vl) : Prop := RdV w L B u p ∧ ∀ n c, u = .slice none n c → c = 0
theorem RdN.below {w w' : World} {L B : Nat} {u : Value} {p : List Vl} (h : RdN w L B u p) (hb : Below B w w') : RdN w' L B u p := ⟨h.1.below hb, h.2⟩
theorem RdN.more {w : World} {L B B' : Nat} {u : Value} {p : List Vl} (h : RdN w L B u p) (hB : B ≤ B') : RdN w L B' u p := ⟨h.1.more hB (Nat.le_refl _), h.2⟩
theorem RdN.step {w w' : World} {L B : Nat} {u : Value} {p : List Vl} (h : RdN w L B u p) (hb : Below w.heap.size w w') (hB : B ≤ w.heap.size) : RdN w' L w'.heap.size u p := ⟨h.1.step hb hB, h.2⟩
/-- A change that leaves all blocks but g as they were leaves what is read beside g. -/
theorem RdN.grown {w w' : World} {g B : Nat} {L : Nat} {u : Value} {p : List Vl} (h : RdN w L B u p) (hg : w.grownBy w' (some g)) (hL : g < L) (hB : B ≤ w.heap.size) : RdN w' L w'.heap.size u p := by
  obtain ⟨⟨A, c, hv, hl, hc⟩, h2⟩ := h
  have hz := hg.size
  refine ⟨⟨A, c, hv, hl, fun k n hk => ?_⟩, h2⟩
  obtain ⟨ad, h1, h0, h3, c0, c1, c2⟩ := hc k n hk
  have hne : ∀ a : Addr, a.block = ad.block → w'.cell? a = w.cell? a := fun a ha => World.grownBy.cell_far hg a (by omega) (by rw [ha]; intro e; injection e with e; omega)
  exact ⟨ad, h1, h0, by omega, (hne _ (by rw [add_block])).trans c0, (hne _ (by show (ad.add (k * 3)).block = _; rw [add_block])).trans c1, (hne _ (by show (ad.add (k * 3)).block = _; rw [add_block])).trans c2⟩
/-- The slice v holds slices that hold the rows rs. -/
def RdR (w : World) (L B : Nat) (v : Value) (rs : List (List Vl)) : Prop :=
  ∃ A c, v = .slice A rs.length c ∧ rs.length ≤ 9223372036854775807 ∧ ∀ (k : Nat) (r : List Vl), rs[k]? = some r → ∃ (ad : Addr) (u : Value), A = some ad ∧ L ≤ ad.block ∧ ad.block < B ∧ w.cell? (ad.add k) = some u ∧ RdN w 0 B u r
theorem RdR.below {w w' : World} {L B : Nat} {v : Value} {rs : List (List Vl)} (h : RdR w L B v rs) (hb : Below B w w') : RdR w' L B v rs := by
  obtain ⟨A, c, hv, hl, hc⟩ := h
  exact ⟨A, c, hv, hl, fun k n hk => let ⟨ad, u, h1, h0, h2, h3, h4⟩ := hc k n hk; ⟨ad, u, h1, h0, h2, (hb.cell (p := ad.add k) (by rw [add_block]; exact h2)).trans h3, h4.below hb⟩⟩
theorem RdR.more {w : World} {L B B' : Nat} {v : Value} {rs : List (List Vl)} (h : RdR w L B v rs) (hB : B ≤ B') : RdR w L B' v rs := by
  obtain ⟨A, c, hv, hl, hc⟩ := h
  exact ⟨A, c, hv, hl, fun k n hk => let ⟨ad, u, h1, h0, h2, h3, h4⟩ := hc k n hk; ⟨ad, u, h1, h0, Nat.lt_of_lt_of_le h2 hB, h3, h4.more hB⟩⟩
theorem RdR.step {w w' : World} {L B : Nat} {v : Value} {rs : List (List Vl)} (h : RdR w L B v rs) (hb : Below w.heap.size w w') (hB : B ≤ w.heap.size) : RdR w' L w'.heap.size v rs :=
  ((h.more hB).below hb).more hb.size
end Go.Proofs.Ythnmcpfmljibeaa
/-
  One column of a row, of the program and of the reference; comparing by one column; the closure of tuple.Order. Conditions: lengths. (Written by mkTuC.py.)
-/
namespace Go.Proofs.Ythnmcpfmljibeaa
set_option maxRecDepth 100000
set_option linter.unusedVariables false
set_option linter.unusedSimpArgs false
open Go.RowKit

end Go.Proofs.Ythnmcpfmljibeaa
/-
  Rows of numbers that a call makes. Conditions: lengths.
-/
namespace Go.Proofs.Ythnmcpfmljibeaa
set_option maxRecDepth 100000
set_option linter.unusedVariables false
set_option linter.unusedSimpArgs false
open Go.RowKit

theorem infoI13 : (Try.prog.info? 3).map (fun i => (i.zero, i.size, i.bytes)) = some (some (.int .i64 0), 1, 8) := by kernel_rfl
/-- The cells of n numbers of which those of zs are set. -/
def rowZ (zs : List Int) (n : Nat) : Array Value := (zs.map (Value.int .i64) ++ List.replicate (n - zs.length) (Value.int .i64 0)).toArray
theorem rowZ_next (zs : List Int) (n : Nat) (h : zs.length < n) : (rowZ zs n)[zs.length]? = some (Value.int .i64 0) := by
  unfold rowZ
  simp only [List.getElem?_toArray]
  rw [List.getElem?_append_right (by simp), List.length_map, Nat.sub_self, List.getElem?_replicate, if_pos (by omega)]
theorem rowZ_set (zs : List Int) (n : Nat) (z : Int) (h : zs.length < n) : (rowZ zs n).setIfInBounds zs.length (.int .i64 z) = rowZ (zs ++ [z]) n := by
  unfold rowZ
  rw [List.setIfInBounds_toArray]
  congr 1
  rw [List.set_append_right _ _ (by simp), List.length_map, Nat.sub_self, show n - zs.length = (n - (zs ++ [z]).length) + 1 by rw [List.length_append]; simp; omega]
  simp [List.replicate_succ]
theorem made_rowZ (W : World) (n : Nat) (hn : n ≤ 1099511627776) :
    (Instr.makeSlice 45 (.int .i64 (n : Nat)) (.int .i64 (n : Nat))).run Try.prog W = .ok (.slice (some ⟨W.heap.size, 0, none⟩) n n) (W.alloc (.cells (rowZ [] n) 3)) := by
  obtain ⟨i0, hi, hz0, hz1, hz2⟩ := info_partsB infoI13
  have h := run_make (P := Try.prog) (w := W) 45 3 i0 (.int .i64 0) Try.underlying45 hi hz0 .i64 .i64 (n : Int) (n : Int) (by omega) (Int.le_refl _) (by rw [hz2]; omega) (by omega)
  rw [h, Int.toNat_natCast, hz1]
  have hr : madeCells (Value.int .i64 0).cells (n * 1) = rowZ [] n := by
    unfold rowZ
    rw [Nat.mul_one]
    unfold madeCells
    apply Array.ext
    · simp [Value.cells]
    · intro i h1 h2; simp [Value.cells, Nat.mod_one]
  rw [hr]
theorem addZ13 (g j : Nat) : (⟨g, 0, none⟩ : Addr).add j = ⟨g, j, none⟩ := by
  unfold Addr.add
  split <;> simp_all
theorem rdI_row {w : World} {g L : Nat} {zs : List Int} (h : Own w g 3 (rowZ zs zs.length)) (hg : L ≤ g) (hl : zs.length ≤ 9223372036854775807) : RdI w L w.heap.size (.slice (some ⟨g, 0, none⟩) zs.length zs.length) zs := by
  refine ⟨_, _, rfl, hl, fun k z hk => ⟨⟨g, 0, none⟩, rfl, hg, h.lt, ?_⟩⟩
  rw [addZ13, h.cell k]
  unfold rowZ
  simp [hk]
end Go.Proofs.Ythnmcpfmljibeaa
/-
  Rows of numbers of a call's own that grow. Conditions: lengths.
-/
namespace Go.Proofs.Ythnmcpfmljibeaa
set_option maxRecDepth 100000
set_option linter.unusedVariables false
set_option linter.unusedSimpArgs false
open Go.RowKit

end Go.Proofs.Ythnmcpfmljibeaa
