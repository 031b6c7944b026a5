/-
  NARROWER THAN 'FOR EVERY INPUT', by the rows' own cells (each row's printed sentence says how): AllenOne: laid · AllenInverse: laid · AllenComposes: laid · AllenCompose: laid · AllenNames: laid · AllenTighten: laid · AllenSound: laid.
  DERIVED. THE GIVEN ROWS OF THIS SEAT. 7 by the template 'for every input the law returns true; each argument reads behind the call as it read before'; 0 by the template 'total and deterministic' (their statements: YtmmecpmeemhglaaDoorTotals.lean).
  GIVEN WITH THE SEED: the statements are not yours to turn. If you find one false, say at which input.
  Laid BY PROGRAM, IN A SANDBOX (cutbox-rows.mjs): the forced cells as the released guide's own fill.sh prints them over the translation c67645cbc1205fc6… (all of the seat's roots in one cut). By AI agents, Wed Nov 11 2026. No macro, syntax, notation, axiom, sorry.
-/
import Derived.Test.YtmmecpmeemhglaaDoorChecked
import GoSem.Claim
import GoSem.ClaimJoined
import GoSem.ClaimMapViews
import Derived.JoinedTies
import Derived.KernelRfl
namespace Go.Proofs.YtmmecpmeemhglaaDoor
/- THE CELL 'sum', in the pinned program and in every row, IS THE sha256 OF THE DUMP (.gsa) THAT YtmmecpmeemhglaaDoorProg.lean LOADS. Nothing in Lean hashes anything: it is a label: what it is worth is what the hold of that sum in a sandbox is worth. -/
noncomputable def Tryd.pinned : Pinned := { name := "ytmmecpmeemhglaadoor", sum := "c67645cbc1205fc6396f429f91eeee0a9c736aa3ffdb455b4c681a8164b2bd3c", checked := Tryd.checked }
namespace Rows
def none {H : Type} : Left H := { results := [], args := [] }

/- WHAT THE LISTED PACKAGE-LEVEL VARIABLES READ AS WHEN THE CALL BEGINS. Each datum BY PROGRAM (the guide's laid-datum.mjs) off the statement by which the dump's own 'gosem.cut.vars' lays the variable. In a bare row this is a premise. The card (YtmmecpmeemhglaaDoorCards.lean) ties it to the program's text. -/
def laid_bitemporal_allen_names {H : Type} : DataW H := .agg [.lit (.string [66, 69, 70, 79, 82, 69]), .lit (.string [77, 69, 69, 84, 83]), .lit (.string [79, 86, 69, 82, 76, 65, 80, 83]), .lit (.string [83, 84, 65, 82, 84, 83]), .lit (.string [68, 85, 82, 73, 78, 71]), .lit (.string [70, 73, 78, 73, 83, 72, 69, 83]), .lit (.string [69, 81, 85, 65, 76, 83]), .lit (.string [70, 73, 78, 73, 83, 72, 69, 68, 66, 89]), .lit (.string [67, 79, 78, 84, 65, 73, 78, 83]), .lit (.string [83, 84, 65, 82, 84, 69, 68, 66, 89]), .lit (.string [79, 86, 69, 82, 76, 65, 80, 80, 69, 68, 66, 89]), .lit (.string [77, 69, 84, 66, 89]), .lit (.string [65, 70, 84, 69, 82])]

/-- 'bitemporallaw02.AllenOne': WHATEVER THE INPUT: true; the input reads as it did. -/
def allenOneSpec : ChangeSpec := { name := "allenOne", fn := fun _ => fun
  | [d1, d2] => { results := [.lit (.bool true)], args := [d1, d2] }
  | _ => none }
def allenOneRow : OpenClaim := { program := "ytmmecpmeemhglaadoor", sum := "c67645cbc1205fc6396f429f91eeee0a9c736aa3ffdb455b4c681a8164b2bd3c", func := "bitemporal/bitemporallaw02.AllenOne", spec := "allenOne", named := ["bitemporal/allen.names"], apart := false, laid := [("bitemporal/allen.names", laid_bitemporal_allen_names)] }
def AllenOneSaid : Prop := allenOneRow.holds Tryd.pinned (OpenSpec.ofChange allenOneSpec)

/-- ITS FALSE NEIGHBOUR: 'it returns false'. Refute it at one input. -/
def allenOneWrong : ChangeSpec := { name := "allenOne", fn := fun _ => fun
  | [d1, d2] => { results := [.lit (.bool false)], args := [d1, d2] }
  | _ => none }
def AllenOneWrongFalsely : Prop := allenOneRow.holds Tryd.pinned (OpenSpec.ofChange allenOneWrong)

/-- 'bitemporallaw02.AllenInverse': WHATEVER THE INPUT: true; the input reads as it did. -/
def allenInverseSpec : ChangeSpec := { name := "allenInverse", fn := fun _ => fun
  | [d] => { results := [.lit (.bool true)], args := [d] }
  | _ => none }
def allenInverseRow : OpenClaim := { program := "ytmmecpmeemhglaadoor", sum := "c67645cbc1205fc6396f429f91eeee0a9c736aa3ffdb455b4c681a8164b2bd3c", func := "bitemporal/bitemporallaw02.AllenInverse", spec := "allenInverse", named := ["bitemporal/allen.names"], apart := false, laid := [("bitemporal/allen.names", laid_bitemporal_allen_names)] }
def AllenInverseSaid : Prop := allenInverseRow.holds Tryd.pinned (OpenSpec.ofChange allenInverseSpec)

/-- ITS FALSE NEIGHBOUR: 'it returns false'. Refute it at one input. -/
def allenInverseWrong : ChangeSpec := { name := "allenInverse", fn := fun _ => fun
  | [d] => { results := [.lit (.bool false)], args := [d] }
  | _ => none }
def AllenInverseWrongFalsely : Prop := allenInverseRow.holds Tryd.pinned (OpenSpec.ofChange allenInverseWrong)

/-- 'bitemporallaw02.AllenComposes': WHATEVER THE INPUT: true; the input reads as it did. -/
def allenComposesSpec : ChangeSpec := { name := "allenComposes", fn := fun _ => fun
  | [d1, d2, d3] => { results := [.lit (.bool true)], args := [d1, d2, d3] }
  | _ => none }
def allenComposesRow : OpenClaim := { program := "ytmmecpmeemhglaadoor", sum := "c67645cbc1205fc6396f429f91eeee0a9c736aa3ffdb455b4c681a8164b2bd3c", func := "bitemporal/bitemporallaw02.AllenComposes", spec := "allenComposes", named := ["bitemporal/allen.names"], apart := false, laid := [("bitemporal/allen.names", laid_bitemporal_allen_names)] }
def AllenComposesSaid : Prop := allenComposesRow.holds Tryd.pinned (OpenSpec.ofChange allenComposesSpec)

/-- ITS FALSE NEIGHBOUR: 'it returns false'. Refute it at one input. -/
def allenComposesWrong : ChangeSpec := { name := "allenComposes", fn := fun _ => fun
  | [d1, d2, d3] => { results := [.lit (.bool false)], args := [d1, d2, d3] }
  | _ => none }
def AllenComposesWrongFalsely : Prop := allenComposesRow.holds Tryd.pinned (OpenSpec.ofChange allenComposesWrong)

/-- 'bitemporallaw02.AllenCompose': WHATEVER THE INPUT: true; the input reads as it did. -/
def allenComposeSpec : ChangeSpec := { name := "allenCompose", fn := fun _ => fun
  | [d1, d2] => { results := [.lit (.bool true)], args := [d1, d2] }
  | _ => none }
def allenComposeRow : OpenClaim := { program := "ytmmecpmeemhglaadoor", sum := "c67645cbc1205fc6396f429f91eeee0a9c736aa3ffdb455b4c681a8164b2bd3c", func := "bitemporal/bitemporallaw02.AllenCompose", spec := "allenCompose", named := ["bitemporal/allen.names"], apart := false, laid := [("bitemporal/allen.names", laid_bitemporal_allen_names)] }
def AllenComposeSaid : Prop := allenComposeRow.holds Tryd.pinned (OpenSpec.ofChange allenComposeSpec)

/-- ITS FALSE NEIGHBOUR: 'it returns false'. Refute it at one input. -/
def allenComposeWrong : ChangeSpec := { name := "allenCompose", fn := fun _ => fun
  | [d1, d2] => { results := [.lit (.bool false)], args := [d1, d2] }
  | _ => none }
def AllenComposeWrongFalsely : Prop := allenComposeRow.holds Tryd.pinned (OpenSpec.ofChange allenComposeWrong)

/-- 'bitemporallaw02.AllenNames': WHATEVER THE INPUT: true; the input reads as it did. -/
def allenNamesSpec : ChangeSpec := { name := "allenNames", fn := fun _ => fun
  | [d1, d2] => { results := [.lit (.bool true)], args := [d1, d2] }
  | _ => none }
def allenNamesRow : OpenClaim := { program := "ytmmecpmeemhglaadoor", sum := "c67645cbc1205fc6396f429f91eeee0a9c736aa3ffdb455b4c681a8164b2bd3c", func := "bitemporal/bitemporallaw02.AllenNames", spec := "allenNames", named := ["bitemporal/allen.names"], apart := false, laid := [("bitemporal/allen.names", laid_bitemporal_allen_names)] }
def AllenNamesSaid : Prop := allenNamesRow.holds Tryd.pinned (OpenSpec.ofChange allenNamesSpec)

/-- ITS FALSE NEIGHBOUR: 'it returns false'. Refute it at one input. -/
def allenNamesWrong : ChangeSpec := { name := "allenNames", fn := fun _ => fun
  | [d1, d2] => { results := [.lit (.bool false)], args := [d1, d2] }
  | _ => none }
def AllenNamesWrongFalsely : Prop := allenNamesRow.holds Tryd.pinned (OpenSpec.ofChange allenNamesWrong)

/-- 'bitemporallaw02.AllenTighten': WHATEVER THE INPUT: true; the input reads as it did. -/
def allenTightenSpec : ChangeSpec := { name := "allenTighten", fn := fun _ => fun
  | [d1, d2] => { results := [.lit (.bool true)], args := [d1, d2] }
  | _ => none }
def allenTightenRow : OpenClaim := { program := "ytmmecpmeemhglaadoor", sum := "c67645cbc1205fc6396f429f91eeee0a9c736aa3ffdb455b4c681a8164b2bd3c", func := "bitemporal/bitemporallaw02.AllenTighten", spec := "allenTighten", named := ["bitemporal/allen.names"], apart := false, laid := [("bitemporal/allen.names", laid_bitemporal_allen_names)] }
def AllenTightenSaid : Prop := allenTightenRow.holds Tryd.pinned (OpenSpec.ofChange allenTightenSpec)

/-- ITS FALSE NEIGHBOUR: 'it returns false'. Refute it at one input. -/
def allenTightenWrong : ChangeSpec := { name := "allenTighten", fn := fun _ => fun
  | [d1, d2] => { results := [.lit (.bool false)], args := [d1, d2] }
  | _ => none }
def AllenTightenWrongFalsely : Prop := allenTightenRow.holds Tryd.pinned (OpenSpec.ofChange allenTightenWrong)

/-- 'bitemporallaw02.AllenSound': WHATEVER THE INPUT: true; the input reads as it did. -/
def allenSoundSpec : ChangeSpec := { name := "allenSound", fn := fun _ => fun
  | [d1, d2] => { results := [.lit (.bool true)], args := [d1, d2] }
  | _ => none }
def allenSoundRow : OpenClaim := { program := "ytmmecpmeemhglaadoor", sum := "c67645cbc1205fc6396f429f91eeee0a9c736aa3ffdb455b4c681a8164b2bd3c", func := "bitemporal/bitemporallaw02.AllenSound", spec := "allenSound", named := ["bitemporal/allen.names"], apart := false, laid := [("bitemporal/allen.names", laid_bitemporal_allen_names)] }
def AllenSoundSaid : Prop := allenSoundRow.holds Tryd.pinned (OpenSpec.ofChange allenSoundSpec)

/-- ITS FALSE NEIGHBOUR: 'it returns false'. Refute it at one input. -/
def allenSoundWrong : ChangeSpec := { name := "allenSound", fn := fun _ => fun
  | [d1, d2] => { results := [.lit (.bool false)], args := [d1, d2] }
  | _ => none }
def AllenSoundWrongFalsely : Prop := allenSoundRow.holds Tryd.pinned (OpenSpec.ofChange allenSoundWrong)

/- THE SECOND FORM. 'bulk': how many values and letters a reading holds, each counted each time it is reached (what is shared counts as often as it is met; a slice's spare places count too). A statement '..UptoSaid' is the law's where the arguments, and the package variables that the reading takes, are together of bulk at most 1048576: NARROWER than '..Said'. Prove '..Said' where nothing that the law and all that it calls make is longer than what came in: it says more and counts as full. Else prove '..UptoSaid'. A law counts once. -/
mutual
def uptoBulk {H : Type} : DataW H → Nat
  | .lit (.string bytes) => bytes.length + 1
  | .lit _ => 1
  | .nil => 1
  | .ptr d => uptoBulk d + 1
  | .slice elems spare => uptoBulkAll elems + uptoBulkAll spare + 1
  | .agg parts => uptoBulkAll parts + 1
  | .iface _ d => uptoBulk d + 1
  | .map entries => uptoBulkEntries entries + 1
  | .held _ => 1
def uptoBulkAll {H : Type} : List (DataW H) → Nat
  | [] => 0
  | d :: r => uptoBulk d + uptoBulkAll r
def uptoBulkEntries {H : Type} : List (Lit × DataW H) → Nat
  | [] => 0
  | x :: r => uptoBulkEntry x + uptoBulkEntries r
def uptoBulkEntry {H : Type} : Lit × DataW H → Nat
  | (.string bytes, d) => bytes.length + uptoBulk d + 1
  | (_, d) => uptoBulk d + 1
 end
def uptoSmall : (H : Type) → List (DataW H) → Bool := fun _ ds => decide (uptoBulkAll ds ≤ 1048576)
def OpenSpec.upto (s : _root_.Go.ChangeSpec) : _root_.Go.OpenSpec := { _root_.Go.OpenSpec.ofChange s with cond := some uptoSmall }

/-- 'bitemporallaw02.AllenOne', WHERE WHAT IT READS IS OF BULK AT MOST 1048576: true; the input reads as it did. -/
def allenOneUptoRow : OpenClaim := { program := "ytmmecpmeemhglaadoor", sum := "c67645cbc1205fc6396f429f91eeee0a9c736aa3ffdb455b4c681a8164b2bd3c", func := "bitemporal/bitemporallaw02.AllenOne", spec := "allenOne", named := ["bitemporal/allen.names"], apart := false, laid := [("bitemporal/allen.names", laid_bitemporal_allen_names)], narrowed := true }
def AllenOneUptoSaid : Prop := allenOneUptoRow.holds Tryd.pinned (OpenSpec.upto allenOneSpec)

/-- 'bitemporallaw02.AllenInverse', WHERE WHAT IT READS IS OF BULK AT MOST 1048576: true; the input reads as it did. -/
def allenInverseUptoRow : OpenClaim := { program := "ytmmecpmeemhglaadoor", sum := "c67645cbc1205fc6396f429f91eeee0a9c736aa3ffdb455b4c681a8164b2bd3c", func := "bitemporal/bitemporallaw02.AllenInverse", spec := "allenInverse", named := ["bitemporal/allen.names"], apart := false, laid := [("bitemporal/allen.names", laid_bitemporal_allen_names)], narrowed := true }
def AllenInverseUptoSaid : Prop := allenInverseUptoRow.holds Tryd.pinned (OpenSpec.upto allenInverseSpec)

/-- 'bitemporallaw02.AllenComposes', WHERE WHAT IT READS IS OF BULK AT MOST 1048576: true; the input reads as it did. -/
def allenComposesUptoRow : OpenClaim := { program := "ytmmecpmeemhglaadoor", sum := "c67645cbc1205fc6396f429f91eeee0a9c736aa3ffdb455b4c681a8164b2bd3c", func := "bitemporal/bitemporallaw02.AllenComposes", spec := "allenComposes", named := ["bitemporal/allen.names"], apart := false, laid := [("bitemporal/allen.names", laid_bitemporal_allen_names)], narrowed := true }
def AllenComposesUptoSaid : Prop := allenComposesUptoRow.holds Tryd.pinned (OpenSpec.upto allenComposesSpec)

/-- 'bitemporallaw02.AllenCompose', WHERE WHAT IT READS IS OF BULK AT MOST 1048576: true; the input reads as it did. -/
def allenComposeUptoRow : OpenClaim := { program := "ytmmecpmeemhglaadoor", sum := "c67645cbc1205fc6396f429f91eeee0a9c736aa3ffdb455b4c681a8164b2bd3c", func := "bitemporal/bitemporallaw02.AllenCompose", spec := "allenCompose", named := ["bitemporal/allen.names"], apart := false, laid := [("bitemporal/allen.names", laid_bitemporal_allen_names)], narrowed := true }
def AllenComposeUptoSaid : Prop := allenComposeUptoRow.holds Tryd.pinned (OpenSpec.upto allenComposeSpec)

/-- 'bitemporallaw02.AllenNames', WHERE WHAT IT READS IS OF BULK AT MOST 1048576: true; the input reads as it did. -/
def allenNamesUptoRow : OpenClaim := { program := "ytmmecpmeemhglaadoor", sum := "c67645cbc1205fc6396f429f91eeee0a9c736aa3ffdb455b4c681a8164b2bd3c", func := "bitemporal/bitemporallaw02.AllenNames", spec := "allenNames", named := ["bitemporal/allen.names"], apart := false, laid := [("bitemporal/allen.names", laid_bitemporal_allen_names)], narrowed := true }
def AllenNamesUptoSaid : Prop := allenNamesUptoRow.holds Tryd.pinned (OpenSpec.upto allenNamesSpec)

/-- 'bitemporallaw02.AllenTighten', WHERE WHAT IT READS IS OF BULK AT MOST 1048576: true; the input reads as it did. -/
def allenTightenUptoRow : OpenClaim := { program := "ytmmecpmeemhglaadoor", sum := "c67645cbc1205fc6396f429f91eeee0a9c736aa3ffdb455b4c681a8164b2bd3c", func := "bitemporal/bitemporallaw02.AllenTighten", spec := "allenTighten", named := ["bitemporal/allen.names"], apart := false, laid := [("bitemporal/allen.names", laid_bitemporal_allen_names)], narrowed := true }
def AllenTightenUptoSaid : Prop := allenTightenUptoRow.holds Tryd.pinned (OpenSpec.upto allenTightenSpec)

/-- 'bitemporallaw02.AllenSound', WHERE WHAT IT READS IS OF BULK AT MOST 1048576: true; the input reads as it did. -/
def allenSoundUptoRow : OpenClaim := { program := "ytmmecpmeemhglaadoor", sum := "c67645cbc1205fc6396f429f91eeee0a9c736aa3ffdb455b4c681a8164b2bd3c", func := "bitemporal/bitemporallaw02.AllenSound", spec := "allenSound", named := ["bitemporal/allen.names"], apart := false, laid := [("bitemporal/allen.names", laid_bitemporal_allen_names)], narrowed := true }
def AllenSoundUptoSaid : Prop := allenSoundUptoRow.holds Tryd.pinned (OpenSpec.upto allenSoundSpec)

end Rows
end Go.Proofs.YtmmecpmeemhglaaDoor
