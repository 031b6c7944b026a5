/-
  NARROWER THAN 'FOR EVERY INPUT', by the rows' own cells (each row's printed sentence says how): ExprChecks: loops · ExprEvaluates: loops · ExprChanges: loops · ExprCompares: loops · ExprKinds: loops · ExprColumns: loops.
  DERIVED. THE GIVEN ROWS OF THIS SEAT. 6 by the template 'for every input the law returns true; each argument reads behind the call as it read before'; 0 by the template 'total and deterministic' (their statements: YtpiadcfejbnonaaTotals.lean).
  GIVEN WITH THE SEED: the statements are not yours to turn. If you find one false, say at which input.
  Laid BY PROGRAM, IN A SANDBOX (cutbox-rows.mjs): the forced cells as the released guide's own fill.sh prints them over the translation 047a0b235dbbd399… (all of the seat's roots in one cut). By AI agents, Wed Nov 11 2026. No macro, syntax, notation, axiom, sorry.
-/
import Derived.Test.YtpiadcfejbnonaaChecked
import GoSem.Claim
import GoSem.ClaimJoined
import GoSem.ClaimMapViews
import Derived.JoinedTies
import Derived.KernelRfl
namespace Go.Proofs.Ytpiadcfejbnonaa
/- THE CELL 'sum', in the pinned program and in every row, IS THE sha256 OF THE DUMP (.gsa) THAT YtpiadcfejbnonaaProg.lean LOADS. Nothing in Lean hashes anything: it is a label: what it is worth is what the hold of that sum in a sandbox is worth. -/
noncomputable def Try.pinned : Pinned := { name := "ytpiadcfejbnonaa", sum := "047a0b235dbbd399a47dbea3a4c45480296d41d6162a63cc001ef95a2614f550", checked := Try.checked }
namespace Rows
def none {H : Type} : Left H := { results := [], args := [] }

/-- 'bitemporallaw11.ExprChecks': WHATEVER THE INPUT: true; the input reads as it did. -/
def exprChecksSpec : ChangeSpec := { name := "exprChecks", fn := fun _ => fun
  | [d1, d2] => { results := [.lit (.bool true)], args := [d1, d2] }
  | _ => none }
def exprChecksRow : OpenClaim := { program := "ytpiadcfejbnonaa", sum := "047a0b235dbbd399a47dbea3a4c45480296d41d6162a63cc001ef95a2614f550", func := "bitemporal/bitemporallaw11.ExprChecks", spec := "exprChecks", inPlace := ["internal/bytealg.abigen_runtime_cmpstring"], unfollowed := true, recurses := true, loops := true, apart := false }
def ExprChecksSaid : Prop := exprChecksRow.holds Try.pinned (OpenSpec.ofChange exprChecksSpec)

/-- ITS FALSE NEIGHBOUR: 'it returns false'. Refute it at one input. -/
def exprChecksWrong : ChangeSpec := { name := "exprChecks", fn := fun _ => fun
  | [d1, d2] => { results := [.lit (.bool false)], args := [d1, d2] }
  | _ => none }
def ExprChecksWrongFalsely : Prop := exprChecksRow.holds Try.pinned (OpenSpec.ofChange exprChecksWrong)

/-- 'bitemporallaw11.ExprEvaluates': WHATEVER THE INPUT: true; the input reads as it did. -/
def exprEvaluatesSpec : ChangeSpec := { name := "exprEvaluates", fn := fun _ => fun
  | [d1, d2] => { results := [.lit (.bool true)], args := [d1, d2] }
  | _ => none }
def exprEvaluatesRow : OpenClaim := { program := "ytpiadcfejbnonaa", sum := "047a0b235dbbd399a47dbea3a4c45480296d41d6162a63cc001ef95a2614f550", func := "bitemporal/bitemporallaw11.ExprEvaluates", spec := "exprEvaluates", inPlace := ["internal/bytealg.abigen_runtime_cmpstring"], unfollowed := true, recurses := true, loops := true, apart := false }
def ExprEvaluatesSaid : Prop := exprEvaluatesRow.holds Try.pinned (OpenSpec.ofChange exprEvaluatesSpec)

/-- ITS FALSE NEIGHBOUR: 'it returns false'. Refute it at one input. -/
def exprEvaluatesWrong : ChangeSpec := { name := "exprEvaluates", fn := fun _ => fun
  | [d1, d2] => { results := [.lit (.bool false)], args := [d1, d2] }
  | _ => none }
def ExprEvaluatesWrongFalsely : Prop := exprEvaluatesRow.holds Try.pinned (OpenSpec.ofChange exprEvaluatesWrong)

/-- 'bitemporallaw11.ExprChanges': WHATEVER THE INPUT: true; the input reads as it did. -/
def exprChangesSpec : ChangeSpec := { name := "exprChanges", fn := fun _ => fun
  | [d1, d2, d3] => { results := [.lit (.bool true)], args := [d1, d2, d3] }
  | _ => none }
def exprChangesRow : OpenClaim := { program := "ytpiadcfejbnonaa", sum := "047a0b235dbbd399a47dbea3a4c45480296d41d6162a63cc001ef95a2614f550", func := "bitemporal/bitemporallaw11.ExprChanges", spec := "exprChanges", inPlace := ["internal/bytealg.abigen_runtime_cmpstring"], unfollowed := true, recurses := true, loops := true, apart := false }
def ExprChangesSaid : Prop := exprChangesRow.holds Try.pinned (OpenSpec.ofChange exprChangesSpec)

/-- ITS FALSE NEIGHBOUR: 'it returns false'. Refute it at one input. -/
def exprChangesWrong : ChangeSpec := { name := "exprChanges", fn := fun _ => fun
  | [d1, d2, d3] => { results := [.lit (.bool false)], args := [d1, d2, d3] }
  | _ => none }
def ExprChangesWrongFalsely : Prop := exprChangesRow.holds Try.pinned (OpenSpec.ofChange exprChangesWrong)

/-- 'bitemporallaw11.ExprCompares': WHATEVER THE INPUT: true; the input reads as it did. -/
def exprComparesSpec : ChangeSpec := { name := "exprCompares", fn := fun _ => fun
  | [d1, d2] => { results := [.lit (.bool true)], args := [d1, d2] }
  | _ => none }
def exprComparesRow : OpenClaim := { program := "ytpiadcfejbnonaa", sum := "047a0b235dbbd399a47dbea3a4c45480296d41d6162a63cc001ef95a2614f550", func := "bitemporal/bitemporallaw11.ExprCompares", spec := "exprCompares", inPlace := ["internal/bytealg.abigen_runtime_cmpstring"], unfollowed := true, recurses := true, loops := true, apart := false }
def ExprComparesSaid : Prop := exprComparesRow.holds Try.pinned (OpenSpec.ofChange exprComparesSpec)

/-- ITS FALSE NEIGHBOUR: 'it returns false'. Refute it at one input. -/
def exprComparesWrong : ChangeSpec := { name := "exprCompares", fn := fun _ => fun
  | [d1, d2] => { results := [.lit (.bool false)], args := [d1, d2] }
  | _ => none }
def ExprComparesWrongFalsely : Prop := exprComparesRow.holds Try.pinned (OpenSpec.ofChange exprComparesWrong)

/-- 'bitemporallaw11.ExprKinds': WHATEVER THE INPUT: true; the input reads as it did. -/
def exprKindsSpec : ChangeSpec := { name := "exprKinds", fn := fun _ => fun
  | [d1, d2, d3] => { results := [.lit (.bool true)], args := [d1, d2, d3] }
  | _ => none }
def exprKindsRow : OpenClaim := { program := "ytpiadcfejbnonaa", sum := "047a0b235dbbd399a47dbea3a4c45480296d41d6162a63cc001ef95a2614f550", func := "bitemporal/bitemporallaw11.ExprKinds", spec := "exprKinds", inPlace := ["internal/bytealg.abigen_runtime_cmpstring"], unfollowed := true, recurses := true, loops := true, apart := false }
def ExprKindsSaid : Prop := exprKindsRow.holds Try.pinned (OpenSpec.ofChange exprKindsSpec)

/-- ITS FALSE NEIGHBOUR: 'it returns false'. Refute it at one input. -/
def exprKindsWrong : ChangeSpec := { name := "exprKinds", fn := fun _ => fun
  | [d1, d2, d3] => { results := [.lit (.bool false)], args := [d1, d2, d3] }
  | _ => none }
def ExprKindsWrongFalsely : Prop := exprKindsRow.holds Try.pinned (OpenSpec.ofChange exprKindsWrong)

/-- 'bitemporallaw11.ExprColumns': WHATEVER THE INPUT: true; the input reads as it did. -/
def exprColumnsSpec : ChangeSpec := { name := "exprColumns", fn := fun _ => fun
  | [d1, d2, d3, d4] => { results := [.lit (.bool true)], args := [d1, d2, d3, d4] }
  | _ => none }
def exprColumnsRow : OpenClaim := { program := "ytpiadcfejbnonaa", sum := "047a0b235dbbd399a47dbea3a4c45480296d41d6162a63cc001ef95a2614f550", func := "bitemporal/bitemporallaw11.ExprColumns", spec := "exprColumns", inPlace := ["internal/bytealg.abigen_runtime_cmpstring"], unfollowed := true, recurses := true, loops := true, apart := false }
def ExprColumnsSaid : Prop := exprColumnsRow.holds Try.pinned (OpenSpec.ofChange exprColumnsSpec)

/-- ITS FALSE NEIGHBOUR: 'it returns false'. Refute it at one input. -/
def exprColumnsWrong : ChangeSpec := { name := "exprColumns", fn := fun _ => fun
  | [d1, d2, d3, d4] => { results := [.lit (.bool false)], args := [d1, d2, d3, d4] }
  | _ => none }
def ExprColumnsWrongFalsely : Prop := exprColumnsRow.holds Try.pinned (OpenSpec.ofChange exprColumnsWrong)

/- THE SECOND FORM. 'bulk': how many values and letters a reading holds, each counted each time it is reached (what is shared counts as often as it is met; a slice's spare places count too). A statement '..UptoSaid' is the law's where the arguments, and the package variables that the reading takes, are together of bulk at most 1048576: NARROWER than '..Said'. Prove '..Said' where nothing that the law and all that it calls make is longer than what came in: it says more and counts as full. Else prove '..UptoSaid'. A law counts once. -/
mutual
def uptoBulk {H : Type} : DataW H → Nat
  | .lit (.string bytes) => bytes.length + 1
  | .lit _ => 1
  | .nil => 1
  | .ptr d => uptoBulk d + 1
  | .slice elems spare => uptoBulkAll elems + uptoBulkAll spare + 1
  | .agg parts => uptoBulkAll parts + 1
  | .iface _ d => uptoBulk d + 1
  | .map entries => uptoBulkEntries entries + 1
  | .held _ => 1
def uptoBulkAll {H : Type} : List (DataW H) → Nat
  | [] => 0
  | d :: r => uptoBulk d + uptoBulkAll r
def uptoBulkEntries {H : Type} : List (Lit × DataW H) → Nat
  | [] => 0
  | x :: r => uptoBulkEntry x + uptoBulkEntries r
def uptoBulkEntry {H : Type} : Lit × DataW H → Nat
  | (.string bytes, d) => bytes.length + uptoBulk d + 1
  | (_, d) => uptoBulk d + 1
 end
def uptoSmall : (H : Type) → List (DataW H) → Bool := fun _ ds => decide (uptoBulkAll ds ≤ 1048576)
def OpenSpec.upto (s : _root_.Go.ChangeSpec) : _root_.Go.OpenSpec := { _root_.Go.OpenSpec.ofChange s with cond := some uptoSmall }

/-- 'bitemporallaw11.ExprChecks', WHERE WHAT IT READS IS OF BULK AT MOST 1048576: true; the input reads as it did. -/
def exprChecksUptoRow : OpenClaim := { program := "ytpiadcfejbnonaa", sum := "047a0b235dbbd399a47dbea3a4c45480296d41d6162a63cc001ef95a2614f550", func := "bitemporal/bitemporallaw11.ExprChecks", spec := "exprChecks", inPlace := ["internal/bytealg.abigen_runtime_cmpstring"], unfollowed := true, recurses := true, loops := true, apart := false, narrowed := true }
def ExprChecksUptoSaid : Prop := exprChecksUptoRow.holds Try.pinned (OpenSpec.upto exprChecksSpec)

/-- 'bitemporallaw11.ExprEvaluates', WHERE WHAT IT READS IS OF BULK AT MOST 1048576: true; the input reads as it did. -/
def exprEvaluatesUptoRow : OpenClaim := { program := "ytpiadcfejbnonaa", sum := "047a0b235dbbd399a47dbea3a4c45480296d41d6162a63cc001ef95a2614f550", func := "bitemporal/bitemporallaw11.ExprEvaluates", spec := "exprEvaluates", inPlace := ["internal/bytealg.abigen_runtime_cmpstring"], unfollowed := true, recurses := true, loops := true, apart := false, narrowed := true }
def ExprEvaluatesUptoSaid : Prop := exprEvaluatesUptoRow.holds Try.pinned (OpenSpec.upto exprEvaluatesSpec)

/-- 'bitemporallaw11.ExprChanges', WHERE WHAT IT READS IS OF BULK AT MOST 1048576: true; the input reads as it did. -/
def exprChangesUptoRow : OpenClaim := { program := "ytpiadcfejbnonaa", sum := "047a0b235dbbd399a47dbea3a4c45480296d41d6162a63cc001ef95a2614f550", func := "bitemporal/bitemporallaw11.ExprChanges", spec := "exprChanges", inPlace := ["internal/bytealg.abigen_runtime_cmpstring"], unfollowed := true, recurses := true, loops := true, apart := false, narrowed := true }
def ExprChangesUptoSaid : Prop := exprChangesUptoRow.holds Try.pinned (OpenSpec.upto exprChangesSpec)

/-- 'bitemporallaw11.ExprCompares', WHERE WHAT IT READS IS OF BULK AT MOST 1048576: true; the input reads as it did. -/
def exprComparesUptoRow : OpenClaim := { program := "ytpiadcfejbnonaa", sum := "047a0b235dbbd399a47dbea3a4c45480296d41d6162a63cc001ef95a2614f550", func := "bitemporal/bitemporallaw11.ExprCompares", spec := "exprCompares", inPlace := ["internal/bytealg.abigen_runtime_cmpstring"], unfollowed := true, recurses := true, loops := true, apart := false, narrowed := true }
def ExprComparesUptoSaid : Prop := exprComparesUptoRow.holds Try.pinned (OpenSpec.upto exprComparesSpec)

/-- 'bitemporallaw11.ExprKinds', WHERE WHAT IT READS IS OF BULK AT MOST 1048576: true; the input reads as it did. -/
def exprKindsUptoRow : OpenClaim := { program := "ytpiadcfejbnonaa", sum := "047a0b235dbbd399a47dbea3a4c45480296d41d6162a63cc001ef95a2614f550", func := "bitemporal/bitemporallaw11.ExprKinds", spec := "exprKinds", inPlace := ["internal/bytealg.abigen_runtime_cmpstring"], unfollowed := true, recurses := true, loops := true, apart := false, narrowed := true }
def ExprKindsUptoSaid : Prop := exprKindsUptoRow.holds Try.pinned (OpenSpec.upto exprKindsSpec)

/-- 'bitemporallaw11.ExprColumns', WHERE WHAT IT READS IS OF BULK AT MOST 1048576: true; the input reads as it did. -/
def exprColumnsUptoRow : OpenClaim := { program := "ytpiadcfejbnonaa", sum := "047a0b235dbbd399a47dbea3a4c45480296d41d6162a63cc001ef95a2614f550", func := "bitemporal/bitemporallaw11.ExprColumns", spec := "exprColumns", inPlace := ["internal/bytealg.abigen_runtime_cmpstring"], unfollowed := true, recurses := true, loops := true, apart := false, narrowed := true }
def ExprColumnsUptoSaid : Prop := exprColumnsUptoRow.holds Try.pinned (OpenSpec.upto exprColumnsSpec)

end Rows
end Go.Proofs.Ytpiadcfejbnonaa
