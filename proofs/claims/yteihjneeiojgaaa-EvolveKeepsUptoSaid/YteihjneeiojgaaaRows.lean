/-
  NARROWER THAN 'FOR EVERY INPUT', by the rows' own cells (each row's printed sentence says how): EvolveComposes: loops · EvolveKeeps: loops.
  DERIVED. THE GIVEN ROWS OF THIS SEAT. 2 by the template 'for every input the law returns true; each argument reads behind the call as it read before'; 0 by the template 'total and deterministic' (their statements: YteihjneeiojgaaaTotals.lean).
  GIVEN WITH THE SEED: the statements are not yours to turn. If you find one false, say at which input.
  Laid BY PROGRAM, IN A SANDBOX (cutbox-rows.mjs): the forced cells as the released guide's own fill.sh prints them over the translation 4ce83bdfd210518c… (all of the seat's roots in one cut). By AI agents, Wed Nov 11 2026. No macro, syntax, notation, axiom, sorry.
-/
import Derived.Test.YteihjneeiojgaaaChecked
import GoSem.Claim
import GoSem.ClaimJoined
import GoSem.ClaimMapViews
import Derived.JoinedTies
import Derived.KernelRfl
namespace Go.Proofs.Yteihjneeiojgaaa
/- THE CELL 'sum', in the pinned program and in every row, IS THE sha256 OF THE DUMP (.gsa) THAT YteihjneeiojgaaaProg.lean LOADS. Nothing in Lean hashes anything: it is a label: what it is worth is what the hold of that sum in a sandbox is worth. -/
noncomputable def Try.pinned : Pinned := { name := "yteihjneeiojgaaa", sum := "4ce83bdfd210518cd454acb096cb98aae64161d83090d61dd1ef248c1c2220c8", checked := Try.checked }
namespace Rows
def none {H : Type} : Left H := { results := [], args := [] }

/-- 'bitemporallaw14.EvolveComposes': WHATEVER THE INPUT: true; the input reads as it did. -/
def evolveComposesSpec : ChangeSpec := { name := "evolveComposes", fn := fun _ => fun
  | [d1, d2, d3] => { results := [.lit (.bool true)], args := [d1, d2, d3] }
  | _ => none }
def evolveComposesRow : OpenClaim := { program := "yteihjneeiojgaaa", sum := "4ce83bdfd210518cd454acb096cb98aae64161d83090d61dd1ef248c1c2220c8", func := "bitemporal/bitemporallaw14.EvolveComposes", spec := "evolveComposes", inPlace := ["internal/bytealg.IndexByteString", "internal/bytealg.IndexString"], unfollowed := true, recurses := true, named := ["internal/bytealg.MaxLen"], loops := true, apart := false }
def EvolveComposesSaid : Prop := evolveComposesRow.holds Try.pinned (OpenSpec.ofChange evolveComposesSpec)

/-- ITS FALSE NEIGHBOUR: 'it returns false'. Refute it at one input. -/
def evolveComposesWrong : ChangeSpec := { name := "evolveComposes", fn := fun _ => fun
  | [d1, d2, d3] => { results := [.lit (.bool false)], args := [d1, d2, d3] }
  | _ => none }
def EvolveComposesWrongFalsely : Prop := evolveComposesRow.holds Try.pinned (OpenSpec.ofChange evolveComposesWrong)

/-- 'bitemporallaw14.EvolveKeeps': WHATEVER THE INPUT: true; the input reads as it did. -/
def evolveKeepsSpec : ChangeSpec := { name := "evolveKeeps", fn := fun _ => fun
  | [d1, d2] => { results := [.lit (.bool true)], args := [d1, d2] }
  | _ => none }
def evolveKeepsRow : OpenClaim := { program := "yteihjneeiojgaaa", sum := "4ce83bdfd210518cd454acb096cb98aae64161d83090d61dd1ef248c1c2220c8", func := "bitemporal/bitemporallaw14.EvolveKeeps", spec := "evolveKeeps", inPlace := ["internal/bytealg.IndexByteString", "internal/bytealg.IndexString"], unfollowed := true, recurses := true, named := ["internal/bytealg.MaxLen"], loops := true, apart := false }
def EvolveKeepsSaid : Prop := evolveKeepsRow.holds Try.pinned (OpenSpec.ofChange evolveKeepsSpec)

/-- ITS FALSE NEIGHBOUR: 'it returns false'. Refute it at one input. -/
def evolveKeepsWrong : ChangeSpec := { name := "evolveKeeps", fn := fun _ => fun
  | [d1, d2] => { results := [.lit (.bool false)], args := [d1, d2] }
  | _ => none }
def EvolveKeepsWrongFalsely : Prop := evolveKeepsRow.holds Try.pinned (OpenSpec.ofChange evolveKeepsWrong)

/- THE SECOND FORM. 'bulk': how many values and letters a reading holds, each counted each time it is reached (what is shared counts as often as it is met; a slice's spare places count too). A statement '..UptoSaid' is the law's where the arguments, and the package variables that the reading takes, are together of bulk at most 1048576: NARROWER than '..Said'. Prove '..Said' where nothing that the law and all that it calls make is longer than what came in: it says more and counts as full. Else prove '..UptoSaid'. A law counts once. -/
mutual
def uptoBulk {H : Type} : DataW H → Nat
  | .lit (.string bytes) => bytes.length + 1
  | .lit _ => 1
  | .nil => 1
  | .ptr d => uptoBulk d + 1
  | .slice elems spare => uptoBulkAll elems + uptoBulkAll spare + 1
  | .agg parts => uptoBulkAll parts + 1
  | .iface _ d => uptoBulk d + 1
  | .map entries => uptoBulkEntries entries + 1
  | .held _ => 1
def uptoBulkAll {H : Type} : List (DataW H) → Nat
  | [] => 0
  | d :: r => uptoBulk d + uptoBulkAll r
def uptoBulkEntries {H : Type} : List (Lit × DataW H) → Nat
  | [] => 0
  | x :: r => uptoBulkEntry x + uptoBulkEntries r
def uptoBulkEntry {H : Type} : Lit × DataW H → Nat
  | (.string bytes, d) => bytes.length + uptoBulk d + 1
  | (_, d) => uptoBulk d + 1
 end
def uptoSmall : (H : Type) → List (DataW H) → Bool := fun _ ds => decide (uptoBulkAll ds ≤ 1048576)
def OpenSpec.upto (s : _root_.Go.ChangeSpec) : _root_.Go.OpenSpec := { _root_.Go.OpenSpec.ofChange s with cond := some uptoSmall }

/-- 'bitemporallaw14.EvolveComposes', WHERE WHAT IT READS IS OF BULK AT MOST 1048576: true; the input reads as it did. -/
def evolveComposesUptoRow : OpenClaim := { program := "yteihjneeiojgaaa", sum := "4ce83bdfd210518cd454acb096cb98aae64161d83090d61dd1ef248c1c2220c8", func := "bitemporal/bitemporallaw14.EvolveComposes", spec := "evolveComposes", inPlace := ["internal/bytealg.IndexByteString", "internal/bytealg.IndexString"], unfollowed := true, recurses := true, named := ["internal/bytealg.MaxLen"], loops := true, apart := false, narrowed := true }
def EvolveComposesUptoSaid : Prop := evolveComposesUptoRow.holds Try.pinned (OpenSpec.upto evolveComposesSpec)

/-- 'bitemporallaw14.EvolveKeeps', WHERE WHAT IT READS IS OF BULK AT MOST 1048576: true; the input reads as it did. -/
def evolveKeepsUptoRow : OpenClaim := { program := "yteihjneeiojgaaa", sum := "4ce83bdfd210518cd454acb096cb98aae64161d83090d61dd1ef248c1c2220c8", func := "bitemporal/bitemporallaw14.EvolveKeeps", spec := "evolveKeeps", inPlace := ["internal/bytealg.IndexByteString", "internal/bytealg.IndexString"], unfollowed := true, recurses := true, named := ["internal/bytealg.MaxLen"], loops := true, apart := false, narrowed := true }
def EvolveKeepsUptoSaid : Prop := evolveKeepsUptoRow.holds Try.pinned (OpenSpec.upto evolveKeepsSpec)

end Rows
end Go.Proofs.Yteihjneeiojgaaa
