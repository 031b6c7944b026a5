import Derived.Test.YthnmcpfmljibeaaUB
import Derived.WalkKit
import Derived.WalkSpells
import Derived.WalkLawsBesides
import Derived.Deep.QuietTactic
import Derived.BigQuiet
import Derived.Handy
import Derived.Lib.Hide
import Derived.Test.YthnmcpfmljibeaaTJ
import Derived.Test.YthnmcpfmljibeaaQJb
import Derived.Test.YthnmcpfmljibeaaQEE
/-
  The reference's Columns. Conditions: lengths, a bounded depth.
-/
namespace Go.Proofs.Ythnmcpfmljibeaa
set_option maxRecDepth 100000
set_option linter.unusedVariables false
set_option linter.unusedSimpArgs false
open Go.RowKit

end Go.Proofs.Ythnmcpfmljibeaa
/-
  Substitute, by the reference: what it answers. Conditions: lengths, a bounded depth.
-/
namespace Go.Proofs.Ythnmcpfmljibeaa
set_option maxRecDepth 100000
set_option linter.unusedVariables false
set_option linter.unusedSimpArgs false
open Go.RowKit

end Go.Proofs.Ythnmcpfmljibeaa
/-
  Arguments that are expressions, opened: their numbers are ints, their columns are few. Conditions: none.
-/
namespace Go.Proofs.Ythnmcpfmljibeaa
set_option maxRecDepth 100000
set_option linter.unusedVariables false
set_option linter.unusedSimpArgs false
open Go.ChangeShapes Go.WideShapes Go.ChangeAt Go.RowKit Go.Joins Go.Deep

/-- Every number of a column lies in the range of an int. -/
def okX : Nat → Ex → Prop
  | 0, _ => True
  | d + 1, e => (Lit.int .i64 e.n).wf = true ∧ ∀ a ∈ e.args, okX d a
theorem okX_mk {op n : Int} {v : Vl} {nm : ByteArray} {es : List Ex} (h : (Lit.int .i64 n).wf = true) (ho : ∀ m, ∀ e ∈ es, okX m e) : ∀ m, okX m ⟨op, n, v, nm, es⟩
  | 0 => trivial
  | m + 1 => ⟨h, ho m⟩
section
variable {H : Type} {enc : TypeId × Value → H} {W : World} {base : Nat}
set_option maxRecDepth 100000 in
/-- The own fields of an expression, and its arguments' slice. -/
theorem open_fieldsC {fuel : Nat} {cs : List Value} {x : DataW H × List MemPlace} (hf : DataW.trod enc Try.prog W 0 (fun _ => true) true fuel 26 cs = some x) :
    ∃ (op n k m : Int) (s nm : ByteArray) (u : Value) (f : Nat) (dd : DataW H) (pp : List MemPlace), (Lit.int .i64 n).wf = true ∧ cs = [.int .i64 op, .int .i64 n, .int .i64 k, .int .i64 m, .string s, .string nm, u] ∧
      DataW.trod enc Try.prog W 0 (fun _ => true) true f 24 [u] = some (dd, pp) ∧ Rows.uptoBulk dd < Rows.uptoBulk x.1 := by
  obtain ⟨xs, n', _, hxy, hcl, hxl, hfl⟩ := DataW.trod_struct Try.underlying26 hf
  rw [cellsExp] at hcl
  match xs, hxl, cs, hcl with
  | [y0, y1, y2, y3, y4], _, [v0, v1, v2, v3, v4, v5, v6], _ =>
    have g0 := hfl 0 _ rfl
    have g1 := hfl 1 _ rfl
    have g2 := hfl 2 _ rfl
    have g3 := hfl 3 _ rfl
    have g4 := hfl 4 _ rfl
    simp [cellsIntX, cellsStrX, cellsValX, cellsExps] at g0 g1 g2 g3 g4
    obtain ⟨a0, e0, _⟩ := DataW.trod_int Try.underlying3 g0
    obtain ⟨a1, e1, _, hw1⟩ := DataW.trod_int Try.underlying3 g1
    obtain ⟨a3, e3, _⟩ := DataW.trod_string Try.underlying9 g3
    obtain ⟨zs, n2, _, _, hzc, hzl, hgl⟩ := DataW.trod_struct Try.underlying23 g2
    match zs, hzl with
    | [z0, z1, z2], _ =>
      have k0 := hgl 0 _ rfl
      have k1 := hgl 1 _ rfl
      have k2 := hgl 2 _ rfl
      simp [cellsIntX, cellsStrX] at k0 k1 k2
      obtain ⟨b0, f0, _⟩ := DataW.trod_int Try.underlying3 k0
      obtain ⟨b1, f1, _⟩ := DataW.trod_int Try.underlying3 k1
      obtain ⟨b2, f2, _⟩ := DataW.trod_string Try.underlying9 k2
      simp at e0 e1 e3 f0 f1 f2
      subst e0 e1 e3 f0 f1 f2
      obtain ⟨y4a, y4b⟩ := y4
      refine ⟨a0, a1, b0, b1, b2, a3, v6, n', y4a, y4b, hw1, rfl, g4, ?_⟩
      have hd : x.1 = .agg [y0.1, y1.1, y2.1, y3.1, y4a] := by simpa using congrArg Prod.fst hxy
      rw [hd]
      simp only [Rows.uptoBulk, Rows.uptoBulkAll]
      omega
end
end Go.Proofs.Ythnmcpfmljibeaa
