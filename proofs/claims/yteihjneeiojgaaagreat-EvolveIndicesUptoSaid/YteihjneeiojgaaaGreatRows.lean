/-
  NARROWER THAN 'FOR EVERY INPUT', by the rows' own cells (each row's printed sentence says how): EvolveChecks: loops · EvolveApplies: loops · EvolveRuns: loops · EvolveIndices: loops · EvolveValid: loops.
  DERIVED. THE GIVEN ROWS OF THIS SEAT. 5 by the template 'for every input the law returns true; each argument reads behind the call as it read before'; 0 by the template 'total and deterministic' (their statements: YteihjneeiojgaaaGreatTotals.lean).
  GIVEN WITH THE SEED: the statements are not yours to turn. If you find one false, say at which input.
  Laid BY PROGRAM, IN A SANDBOX (cutbox-rows.mjs): the forced cells as the released guide's own fill.sh prints them over the translation a3a4cd9e1093cd41… (all of the seat's roots in one cut). By AI agents, Wed Nov 11 2026. No macro, syntax, notation, axiom, sorry.
-/
import Derived.Test.YteihjneeiojgaaaGreatChecked
import GoSem.Claim
import GoSem.ClaimJoined
import GoSem.ClaimMapViews
import Derived.JoinedTies
import Derived.KernelRfl
namespace Go.Proofs.YteihjneeiojgaaaGreat
/- THE CELL 'sum', in the pinned program and in every row, IS THE sha256 OF THE DUMP (.gsa) THAT YteihjneeiojgaaaGreatProg.lean LOADS. Nothing in Lean hashes anything: it is a label: what it is worth is what the hold of that sum in a sandbox is worth. -/
noncomputable def Tryz.pinned : Pinned := { name := "yteihjneeiojgaaagreat", sum := "a3a4cd9e1093cd41d07cb28e348ca03c07c551c66f9b66aee10b62871ed0f90c", checked := Tryz.checked }
namespace Rows
def none {H : Type} : Left H := { results := [], args := [] }

/-- 'bitemporallaw14.EvolveChecks': WHATEVER THE INPUT: true; the input reads as it did. -/
def evolveChecksSpec : ChangeSpec := { name := "evolveChecks", fn := fun _ => fun
  | [d1, d2] => { results := [.lit (.bool true)], args := [d1, d2] }
  | _ => none }
def evolveChecksRow : OpenClaim := { program := "yteihjneeiojgaaagreat", sum := "a3a4cd9e1093cd41d07cb28e348ca03c07c551c66f9b66aee10b62871ed0f90c", func := "bitemporal/bitemporallaw14.EvolveChecks", spec := "evolveChecks", inPlace := ["internal/bytealg.IndexByteString", "internal/bytealg.IndexString"], unfollowed := true, recurses := true, named := ["internal/bytealg.MaxLen"], loops := true, apart := false }
def EvolveChecksSaid : Prop := evolveChecksRow.holds Tryz.pinned (OpenSpec.ofChange evolveChecksSpec)

/-- ITS FALSE NEIGHBOUR: 'it returns false'. Refute it at one input. -/
def evolveChecksWrong : ChangeSpec := { name := "evolveChecks", fn := fun _ => fun
  | [d1, d2] => { results := [.lit (.bool false)], args := [d1, d2] }
  | _ => none }
def EvolveChecksWrongFalsely : Prop := evolveChecksRow.holds Tryz.pinned (OpenSpec.ofChange evolveChecksWrong)

/-- 'bitemporallaw14.EvolveApplies': WHATEVER THE INPUT: true; the input reads as it did. -/
def evolveAppliesSpec : ChangeSpec := { name := "evolveApplies", fn := fun _ => fun
  | [d1, d2] => { results := [.lit (.bool true)], args := [d1, d2] }
  | _ => none }
def evolveAppliesRow : OpenClaim := { program := "yteihjneeiojgaaagreat", sum := "a3a4cd9e1093cd41d07cb28e348ca03c07c551c66f9b66aee10b62871ed0f90c", func := "bitemporal/bitemporallaw14.EvolveApplies", spec := "evolveApplies", inPlace := ["internal/bytealg.IndexByteString", "internal/bytealg.IndexString"], unfollowed := true, recurses := true, named := ["internal/bytealg.MaxLen"], loops := true, apart := false }
def EvolveAppliesSaid : Prop := evolveAppliesRow.holds Tryz.pinned (OpenSpec.ofChange evolveAppliesSpec)

/-- ITS FALSE NEIGHBOUR: 'it returns false'. Refute it at one input. -/
def evolveAppliesWrong : ChangeSpec := { name := "evolveApplies", fn := fun _ => fun
  | [d1, d2] => { results := [.lit (.bool false)], args := [d1, d2] }
  | _ => none }
def EvolveAppliesWrongFalsely : Prop := evolveAppliesRow.holds Tryz.pinned (OpenSpec.ofChange evolveAppliesWrong)

/-- 'bitemporallaw14.EvolveRuns': WHATEVER THE INPUT: true; the input reads as it did. -/
def evolveRunsSpec : ChangeSpec := { name := "evolveRuns", fn := fun _ => fun
  | [d1, d2] => { results := [.lit (.bool true)], args := [d1, d2] }
  | _ => none }
def evolveRunsRow : OpenClaim := { program := "yteihjneeiojgaaagreat", sum := "a3a4cd9e1093cd41d07cb28e348ca03c07c551c66f9b66aee10b62871ed0f90c", func := "bitemporal/bitemporallaw14.EvolveRuns", spec := "evolveRuns", inPlace := ["internal/bytealg.IndexByteString", "internal/bytealg.IndexString"], unfollowed := true, recurses := true, named := ["internal/bytealg.MaxLen"], loops := true, apart := false }
def EvolveRunsSaid : Prop := evolveRunsRow.holds Tryz.pinned (OpenSpec.ofChange evolveRunsSpec)

/-- ITS FALSE NEIGHBOUR: 'it returns false'. Refute it at one input. -/
def evolveRunsWrong : ChangeSpec := { name := "evolveRuns", fn := fun _ => fun
  | [d1, d2] => { results := [.lit (.bool false)], args := [d1, d2] }
  | _ => none }
def EvolveRunsWrongFalsely : Prop := evolveRunsRow.holds Tryz.pinned (OpenSpec.ofChange evolveRunsWrong)

/-- 'bitemporallaw14.EvolveIndices': WHATEVER THE INPUT: true; the input reads as it did. -/
def evolveIndicesSpec : ChangeSpec := { name := "evolveIndices", fn := fun _ => fun
  | [d1, d2, d3] => { results := [.lit (.bool true)], args := [d1, d2, d3] }
  | _ => none }
def evolveIndicesRow : OpenClaim := { program := "yteihjneeiojgaaagreat", sum := "a3a4cd9e1093cd41d07cb28e348ca03c07c551c66f9b66aee10b62871ed0f90c", func := "bitemporal/bitemporallaw14.EvolveIndices", spec := "evolveIndices", inPlace := ["internal/bytealg.IndexByteString", "internal/bytealg.IndexString"], unfollowed := true, recurses := true, named := ["internal/bytealg.MaxLen"], loops := true, apart := false }
def EvolveIndicesSaid : Prop := evolveIndicesRow.holds Tryz.pinned (OpenSpec.ofChange evolveIndicesSpec)

/-- ITS FALSE NEIGHBOUR: 'it returns false'. Refute it at one input. -/
def evolveIndicesWrong : ChangeSpec := { name := "evolveIndices", fn := fun _ => fun
  | [d1, d2, d3] => { results := [.lit (.bool false)], args := [d1, d2, d3] }
  | _ => none }
def EvolveIndicesWrongFalsely : Prop := evolveIndicesRow.holds Tryz.pinned (OpenSpec.ofChange evolveIndicesWrong)

/-- 'bitemporallaw14.EvolveValid': WHATEVER THE INPUT: true; the input reads as it did. -/
def evolveValidSpec : ChangeSpec := { name := "evolveValid", fn := fun _ => fun
  | [d1, d2] => { results := [.lit (.bool true)], args := [d1, d2] }
  | _ => none }
def evolveValidRow : OpenClaim := { program := "yteihjneeiojgaaagreat", sum := "a3a4cd9e1093cd41d07cb28e348ca03c07c551c66f9b66aee10b62871ed0f90c", func := "bitemporal/bitemporallaw14.EvolveValid", spec := "evolveValid", inPlace := ["internal/bytealg.IndexByteString", "internal/bytealg.IndexString"], unfollowed := true, recurses := true, named := ["internal/bytealg.MaxLen"], loops := true, apart := false }
def EvolveValidSaid : Prop := evolveValidRow.holds Tryz.pinned (OpenSpec.ofChange evolveValidSpec)

/-- ITS FALSE NEIGHBOUR: 'it returns false'. Refute it at one input. -/
def evolveValidWrong : ChangeSpec := { name := "evolveValid", fn := fun _ => fun
  | [d1, d2] => { results := [.lit (.bool false)], args := [d1, d2] }
  | _ => none }
def EvolveValidWrongFalsely : Prop := evolveValidRow.holds Tryz.pinned (OpenSpec.ofChange evolveValidWrong)

/- THE SECOND FORM. 'bulk': how many values and letters a reading holds, each counted each time it is reached (what is shared counts as often as it is met; a slice's spare places count too). A statement '..UptoSaid' is the law's where the arguments, and the package variables that the reading takes, are together of bulk at most 1048576: NARROWER than '..Said'. Prove '..Said' where nothing that the law and all that it calls make is longer than what came in: it says more and counts as full. Else prove '..UptoSaid'. A law counts once. -/
mutual
def uptoBulk {H : Type} : DataW H → Nat
  | .lit (.string bytes) => bytes.length + 1
  | .lit _ => 1
  | .nil => 1
  | .ptr d => uptoBulk d + 1
  | .slice elems spare => uptoBulkAll elems + uptoBulkAll spare + 1
  | .agg parts => uptoBulkAll parts + 1
  | .iface _ d => uptoBulk d + 1
  | .map entries => uptoBulkEntries entries + 1
  | .held _ => 1
def uptoBulkAll {H : Type} : List (DataW H) → Nat
  | [] => 0
  | d :: r => uptoBulk d + uptoBulkAll r
def uptoBulkEntries {H : Type} : List (Lit × DataW H) → Nat
  | [] => 0
  | x :: r => uptoBulkEntry x + uptoBulkEntries r
def uptoBulkEntry {H : Type} : Lit × DataW H → Nat
  | (.string bytes, d) => bytes.length + uptoBulk d + 1
  | (_, d) => uptoBulk d + 1
 end
def uptoSmall : (H : Type) → List (DataW H) → Bool := fun _ ds => decide (uptoBulkAll ds ≤ 1048576)
def OpenSpec.upto (s : _root_.Go.ChangeSpec) : _root_.Go.OpenSpec := { _root_.Go.OpenSpec.ofChange s with cond := some uptoSmall }

/-- 'bitemporallaw14.EvolveChecks', WHERE WHAT IT READS IS OF BULK AT MOST 1048576: true; the input reads as it did. -/
def evolveChecksUptoRow : OpenClaim := { program := "yteihjneeiojgaaagreat", sum := "a3a4cd9e1093cd41d07cb28e348ca03c07c551c66f9b66aee10b62871ed0f90c", func := "bitemporal/bitemporallaw14.EvolveChecks", spec := "evolveChecks", inPlace := ["internal/bytealg.IndexByteString", "internal/bytealg.IndexString"], unfollowed := true, recurses := true, named := ["internal/bytealg.MaxLen"], loops := true, apart := false, narrowed := true }
def EvolveChecksUptoSaid : Prop := evolveChecksUptoRow.holds Tryz.pinned (OpenSpec.upto evolveChecksSpec)

/-- 'bitemporallaw14.EvolveApplies', WHERE WHAT IT READS IS OF BULK AT MOST 1048576: true; the input reads as it did. -/
def evolveAppliesUptoRow : OpenClaim := { program := "yteihjneeiojgaaagreat", sum := "a3a4cd9e1093cd41d07cb28e348ca03c07c551c66f9b66aee10b62871ed0f90c", func := "bitemporal/bitemporallaw14.EvolveApplies", spec := "evolveApplies", inPlace := ["internal/bytealg.IndexByteString", "internal/bytealg.IndexString"], unfollowed := true, recurses := true, named := ["internal/bytealg.MaxLen"], loops := true, apart := false, narrowed := true }
def EvolveAppliesUptoSaid : Prop := evolveAppliesUptoRow.holds Tryz.pinned (OpenSpec.upto evolveAppliesSpec)

/-- 'bitemporallaw14.EvolveRuns', WHERE WHAT IT READS IS OF BULK AT MOST 1048576: true; the input reads as it did. -/
def evolveRunsUptoRow : OpenClaim := { program := "yteihjneeiojgaaagreat", sum := "a3a4cd9e1093cd41d07cb28e348ca03c07c551c66f9b66aee10b62871ed0f90c", func := "bitemporal/bitemporallaw14.EvolveRuns", spec := "evolveRuns", inPlace := ["internal/bytealg.IndexByteString", "internal/bytealg.IndexString"], unfollowed := true, recurses := true, named := ["internal/bytealg.MaxLen"], loops := true, apart := false, narrowed := true }
def EvolveRunsUptoSaid : Prop := evolveRunsUptoRow.holds Tryz.pinned (OpenSpec.upto evolveRunsSpec)

/-- 'bitemporallaw14.EvolveIndices', WHERE WHAT IT READS IS OF BULK AT MOST 1048576: true; the input reads as it did. -/
def evolveIndicesUptoRow : OpenClaim := { program := "yteihjneeiojgaaagreat", sum := "a3a4cd9e1093cd41d07cb28e348ca03c07c551c66f9b66aee10b62871ed0f90c", func := "bitemporal/bitemporallaw14.EvolveIndices", spec := "evolveIndices", inPlace := ["internal/bytealg.IndexByteString", "internal/bytealg.IndexString"], unfollowed := true, recurses := true, named := ["internal/bytealg.MaxLen"], loops := true, apart := false, narrowed := true }
def EvolveIndicesUptoSaid : Prop := evolveIndicesUptoRow.holds Tryz.pinned (OpenSpec.upto evolveIndicesSpec)

/-- 'bitemporallaw14.EvolveValid', WHERE WHAT IT READS IS OF BULK AT MOST 1048576: true; the input reads as it did. -/
def evolveValidUptoRow : OpenClaim := { program := "yteihjneeiojgaaagreat", sum := "a3a4cd9e1093cd41d07cb28e348ca03c07c551c66f9b66aee10b62871ed0f90c", func := "bitemporal/bitemporallaw14.EvolveValid", spec := "evolveValid", inPlace := ["internal/bytealg.IndexByteString", "internal/bytealg.IndexString"], unfollowed := true, recurses := true, named := ["internal/bytealg.MaxLen"], loops := true, apart := false, narrowed := true }
def EvolveValidUptoSaid : Prop := evolveValidUptoRow.holds Tryz.pinned (OpenSpec.upto evolveValidSpec)

end Rows
end Go.Proofs.YteihjneeiojgaaaGreat
