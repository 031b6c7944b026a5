/-
  NARROWER THAN 'FOR EVERY INPUT', by the rows' own cells (each row's printed sentence says how): FrameSum: laid · FrameAppend: laid · FrameNext: laid · FrameScan: laid · FrameBack: laid · FrameDamage: laid.
  DERIVED. THE GIVEN ROWS OF THIS SEAT. 6 by the template 'for every input the law returns true; each argument reads behind the call as it read before'; 0 by the template 'total and deterministic' (their statements: YtkhdfjneibnlmaaDoorTotals.lean).
  GIVEN WITH THE SEED: the statements are not yours to turn. If you find one false, say at which input.
  Laid BY PROGRAM, IN A SANDBOX (cutbox-rows.mjs): the forced cells as the released guide's own fill.sh prints them over the translation efb58e52d7f4e81a… (all of the seat's roots in one cut). By AI agents, Wed Nov 11 2026. No macro, syntax, notation, axiom, sorry.
-/
import Derived.Test.YtkhdfjneibnlmaaDoorChecked
import GoSem.Claim
import GoSem.ClaimJoined
import GoSem.ClaimMapViews
import Derived.JoinedTies
import Derived.KernelRfl
namespace Go.Proofs.YtkhdfjneibnlmaaDoor
/- THE CELL 'sum', in the pinned program and in every row, IS THE sha256 OF THE DUMP (.gsa) THAT YtkhdfjneibnlmaaDoorProg.lean LOADS. Nothing in Lean hashes anything: it is a label: what it is worth is what the hold of that sum in a sandbox is worth. -/
noncomputable def Tryd.pinned : Pinned := { name := "ytkhdfjneibnlmaadoor", sum := "efb58e52d7f4e81af8301777ab1780ea6f23051d79276277753f528b44a89545", checked := Tryd.checked }
namespace Rows
def none {H : Type} : Left H := { results := [], args := [] }

/- WHAT THE LISTED PACKAGE-LEVEL VARIABLES READ AS WHEN THE CALL BEGINS. Each datum BY PROGRAM (the guide's laid-datum.mjs) off the statement by which the dump's own 'gosem.cut.vars' lays the variable. In a bare row this is a premise. The card (YtkhdfjneibnlmaaDoorCards.lean) ties it to the program's text. -/
def laid_bitemporal_frame_halfByteSteps {H : Type} : DataW H := .agg [.lit (.int .u32 0), .lit (.int .u32 274646895), .lit (.int .u32 549293790), .lit (.int .u32 820201905), .lit (.int .u32 1098587580), .lit (.int .u32 1361435347), .lit (.int .u32 1640403810), .lit (.int .u32 1905808397), .lit (.int .u32 2197175160), .lit (.int .u32 2460548119), .lit (.int .u32 2722870694), .lit (.int .u32 2987750089), .lit (.int .u32 3280807620), .lit (.int .u32 3553878443), .lit (.int .u32 3811616794), .lit (.int .u32 4084100981)]

/-- 'bitemporallaw10.FrameSum': WHATEVER THE INPUT: true; the input reads as it did. -/
def frameSumSpec : ChangeSpec := { name := "frameSum", fn := fun _ => fun
  | [d] => { results := [.lit (.bool true)], args := [d] }
  | _ => none }
def frameSumRow : OpenClaim := { program := "ytkhdfjneibnlmaadoor", sum := "efb58e52d7f4e81af8301777ab1780ea6f23051d79276277753f528b44a89545", func := "bitemporal/bitemporallaw10.FrameSum", spec := "frameSum", named := ["bitemporal/frame.halfByteSteps"], apart := false, laid := [("bitemporal/frame.halfByteSteps", laid_bitemporal_frame_halfByteSteps)] }
def FrameSumSaid : Prop := frameSumRow.holds Tryd.pinned (OpenSpec.ofChange frameSumSpec)

/-- ITS FALSE NEIGHBOUR: 'it returns false'. Refute it at one input. -/
def frameSumWrong : ChangeSpec := { name := "frameSum", fn := fun _ => fun
  | [d] => { results := [.lit (.bool false)], args := [d] }
  | _ => none }
def FrameSumWrongFalsely : Prop := frameSumRow.holds Tryd.pinned (OpenSpec.ofChange frameSumWrong)

/-- 'bitemporallaw10.FrameAppend': WHATEVER THE INPUT: true; the input reads as it did. -/
def frameAppendSpec : ChangeSpec := { name := "frameAppend", fn := fun _ => fun
  | [d1, d2, d3, d4] => { results := [.lit (.bool true)], args := [d1, d2, d3, d4] }
  | _ => none }
def frameAppendRow : OpenClaim := { program := "ytkhdfjneibnlmaadoor", sum := "efb58e52d7f4e81af8301777ab1780ea6f23051d79276277753f528b44a89545", func := "bitemporal/bitemporallaw10.FrameAppend", spec := "frameAppend", named := ["bitemporal/frame.halfByteSteps"], apart := false, laid := [("bitemporal/frame.halfByteSteps", laid_bitemporal_frame_halfByteSteps)] }
def FrameAppendSaid : Prop := frameAppendRow.holds Tryd.pinned (OpenSpec.ofChange frameAppendSpec)

/-- ITS FALSE NEIGHBOUR: 'it returns false'. Refute it at one input. -/
def frameAppendWrong : ChangeSpec := { name := "frameAppend", fn := fun _ => fun
  | [d1, d2, d3, d4] => { results := [.lit (.bool false)], args := [d1, d2, d3, d4] }
  | _ => none }
def FrameAppendWrongFalsely : Prop := frameAppendRow.holds Tryd.pinned (OpenSpec.ofChange frameAppendWrong)

/-- 'bitemporallaw10.FrameNext': WHATEVER THE INPUT: true; the input reads as it did. -/
def frameNextSpec : ChangeSpec := { name := "frameNext", fn := fun _ => fun
  | [d1, d2] => { results := [.lit (.bool true)], args := [d1, d2] }
  | _ => none }
def frameNextRow : OpenClaim := { program := "ytkhdfjneibnlmaadoor", sum := "efb58e52d7f4e81af8301777ab1780ea6f23051d79276277753f528b44a89545", func := "bitemporal/bitemporallaw10.FrameNext", spec := "frameNext", named := ["bitemporal/frame.halfByteSteps"], apart := false, laid := [("bitemporal/frame.halfByteSteps", laid_bitemporal_frame_halfByteSteps)] }
def FrameNextSaid : Prop := frameNextRow.holds Tryd.pinned (OpenSpec.ofChange frameNextSpec)

/-- ITS FALSE NEIGHBOUR: 'it returns false'. Refute it at one input. -/
def frameNextWrong : ChangeSpec := { name := "frameNext", fn := fun _ => fun
  | [d1, d2] => { results := [.lit (.bool false)], args := [d1, d2] }
  | _ => none }
def FrameNextWrongFalsely : Prop := frameNextRow.holds Tryd.pinned (OpenSpec.ofChange frameNextWrong)

/-- 'bitemporallaw10.FrameScan': WHATEVER THE INPUT: true; the input reads as it did. -/
def frameScanSpec : ChangeSpec := { name := "frameScan", fn := fun _ => fun
  | [d] => { results := [.lit (.bool true)], args := [d] }
  | _ => none }
def frameScanRow : OpenClaim := { program := "ytkhdfjneibnlmaadoor", sum := "efb58e52d7f4e81af8301777ab1780ea6f23051d79276277753f528b44a89545", func := "bitemporal/bitemporallaw10.FrameScan", spec := "frameScan", named := ["bitemporal/frame.halfByteSteps"], apart := false, laid := [("bitemporal/frame.halfByteSteps", laid_bitemporal_frame_halfByteSteps)] }
def FrameScanSaid : Prop := frameScanRow.holds Tryd.pinned (OpenSpec.ofChange frameScanSpec)

/-- ITS FALSE NEIGHBOUR: 'it returns false'. Refute it at one input. -/
def frameScanWrong : ChangeSpec := { name := "frameScan", fn := fun _ => fun
  | [d] => { results := [.lit (.bool false)], args := [d] }
  | _ => none }
def FrameScanWrongFalsely : Prop := frameScanRow.holds Tryd.pinned (OpenSpec.ofChange frameScanWrong)

/-- 'bitemporallaw10.FrameBack': WHATEVER THE INPUT: true; the input reads as it did. -/
def frameBackSpec : ChangeSpec := { name := "frameBack", fn := fun _ => fun
  | [d1, d2] => { results := [.lit (.bool true)], args := [d1, d2] }
  | _ => none }
def frameBackRow : OpenClaim := { program := "ytkhdfjneibnlmaadoor", sum := "efb58e52d7f4e81af8301777ab1780ea6f23051d79276277753f528b44a89545", func := "bitemporal/bitemporallaw10.FrameBack", spec := "frameBack", named := ["bitemporal/frame.halfByteSteps"], apart := false, laid := [("bitemporal/frame.halfByteSteps", laid_bitemporal_frame_halfByteSteps)] }
def FrameBackSaid : Prop := frameBackRow.holds Tryd.pinned (OpenSpec.ofChange frameBackSpec)

/-- ITS FALSE NEIGHBOUR: 'it returns false'. Refute it at one input. -/
def frameBackWrong : ChangeSpec := { name := "frameBack", fn := fun _ => fun
  | [d1, d2] => { results := [.lit (.bool false)], args := [d1, d2] }
  | _ => none }
def FrameBackWrongFalsely : Prop := frameBackRow.holds Tryd.pinned (OpenSpec.ofChange frameBackWrong)

/-- 'bitemporallaw10.FrameDamage': WHATEVER THE INPUT: true; the input reads as it did. -/
def frameDamageSpec : ChangeSpec := { name := "frameDamage", fn := fun _ => fun
  | [d1, d2, d3, d4] => { results := [.lit (.bool true)], args := [d1, d2, d3, d4] }
  | _ => none }
def frameDamageRow : OpenClaim := { program := "ytkhdfjneibnlmaadoor", sum := "efb58e52d7f4e81af8301777ab1780ea6f23051d79276277753f528b44a89545", func := "bitemporal/bitemporallaw10.FrameDamage", spec := "frameDamage", named := ["bitemporal/frame.halfByteSteps"], apart := false, laid := [("bitemporal/frame.halfByteSteps", laid_bitemporal_frame_halfByteSteps)] }
def FrameDamageSaid : Prop := frameDamageRow.holds Tryd.pinned (OpenSpec.ofChange frameDamageSpec)

/-- ITS FALSE NEIGHBOUR: 'it returns false'. Refute it at one input. -/
def frameDamageWrong : ChangeSpec := { name := "frameDamage", fn := fun _ => fun
  | [d1, d2, d3, d4] => { results := [.lit (.bool false)], args := [d1, d2, d3, d4] }
  | _ => none }
def FrameDamageWrongFalsely : Prop := frameDamageRow.holds Tryd.pinned (OpenSpec.ofChange frameDamageWrong)

/- THE SECOND FORM. 'bulk': how many values and letters a reading holds, each counted each time it is reached (what is shared counts as often as it is met; a slice's spare places count too). A statement '..UptoSaid' is the law's where the arguments, and the package variables that the reading takes, are together of bulk at most 1048576: NARROWER than '..Said'. Prove '..Said' where nothing that the law and all that it calls make is longer than what came in: it says more and counts as full. Else prove '..UptoSaid'. A law counts once. -/
mutual
def uptoBulk {H : Type} : DataW H → Nat
  | .lit (.string bytes) => bytes.length + 1
  | .lit _ => 1
  | .nil => 1
  | .ptr d => uptoBulk d + 1
  | .slice elems spare => uptoBulkAll elems + uptoBulkAll spare + 1
  | .agg parts => uptoBulkAll parts + 1
  | .iface _ d => uptoBulk d + 1
  | .map entries => uptoBulkEntries entries + 1
  | .held _ => 1
def uptoBulkAll {H : Type} : List (DataW H) → Nat
  | [] => 0
  | d :: r => uptoBulk d + uptoBulkAll r
def uptoBulkEntries {H : Type} : List (Lit × DataW H) → Nat
  | [] => 0
  | x :: r => uptoBulkEntry x + uptoBulkEntries r
def uptoBulkEntry {H : Type} : Lit × DataW H → Nat
  | (.string bytes, d) => bytes.length + uptoBulk d + 1
  | (_, d) => uptoBulk d + 1
 end
def uptoSmall : (H : Type) → List (DataW H) → Bool := fun _ ds => decide (uptoBulkAll ds ≤ 1048576)
def OpenSpec.upto (s : _root_.Go.ChangeSpec) : _root_.Go.OpenSpec := { _root_.Go.OpenSpec.ofChange s with cond := some uptoSmall }

/-- 'bitemporallaw10.FrameSum', WHERE WHAT IT READS IS OF BULK AT MOST 1048576: true; the input reads as it did. -/
def frameSumUptoRow : OpenClaim := { program := "ytkhdfjneibnlmaadoor", sum := "efb58e52d7f4e81af8301777ab1780ea6f23051d79276277753f528b44a89545", func := "bitemporal/bitemporallaw10.FrameSum", spec := "frameSum", named := ["bitemporal/frame.halfByteSteps"], apart := false, laid := [("bitemporal/frame.halfByteSteps", laid_bitemporal_frame_halfByteSteps)], narrowed := true }
def FrameSumUptoSaid : Prop := frameSumUptoRow.holds Tryd.pinned (OpenSpec.upto frameSumSpec)

/-- 'bitemporallaw10.FrameAppend', WHERE WHAT IT READS IS OF BULK AT MOST 1048576: true; the input reads as it did. -/
def frameAppendUptoRow : OpenClaim := { program := "ytkhdfjneibnlmaadoor", sum := "efb58e52d7f4e81af8301777ab1780ea6f23051d79276277753f528b44a89545", func := "bitemporal/bitemporallaw10.FrameAppend", spec := "frameAppend", named := ["bitemporal/frame.halfByteSteps"], apart := false, laid := [("bitemporal/frame.halfByteSteps", laid_bitemporal_frame_halfByteSteps)], narrowed := true }
def FrameAppendUptoSaid : Prop := frameAppendUptoRow.holds Tryd.pinned (OpenSpec.upto frameAppendSpec)

/-- 'bitemporallaw10.FrameNext', WHERE WHAT IT READS IS OF BULK AT MOST 1048576: true; the input reads as it did. -/
def frameNextUptoRow : OpenClaim := { program := "ytkhdfjneibnlmaadoor", sum := "efb58e52d7f4e81af8301777ab1780ea6f23051d79276277753f528b44a89545", func := "bitemporal/bitemporallaw10.FrameNext", spec := "frameNext", named := ["bitemporal/frame.halfByteSteps"], apart := false, laid := [("bitemporal/frame.halfByteSteps", laid_bitemporal_frame_halfByteSteps)], narrowed := true }
def FrameNextUptoSaid : Prop := frameNextUptoRow.holds Tryd.pinned (OpenSpec.upto frameNextSpec)

/-- 'bitemporallaw10.FrameScan', WHERE WHAT IT READS IS OF BULK AT MOST 1048576: true; the input reads as it did. -/
def frameScanUptoRow : OpenClaim := { program := "ytkhdfjneibnlmaadoor", sum := "efb58e52d7f4e81af8301777ab1780ea6f23051d79276277753f528b44a89545", func := "bitemporal/bitemporallaw10.FrameScan", spec := "frameScan", named := ["bitemporal/frame.halfByteSteps"], apart := false, laid := [("bitemporal/frame.halfByteSteps", laid_bitemporal_frame_halfByteSteps)], narrowed := true }
def FrameScanUptoSaid : Prop := frameScanUptoRow.holds Tryd.pinned (OpenSpec.upto frameScanSpec)

/-- 'bitemporallaw10.FrameBack', WHERE WHAT IT READS IS OF BULK AT MOST 1048576: true; the input reads as it did. -/
def frameBackUptoRow : OpenClaim := { program := "ytkhdfjneibnlmaadoor", sum := "efb58e52d7f4e81af8301777ab1780ea6f23051d79276277753f528b44a89545", func := "bitemporal/bitemporallaw10.FrameBack", spec := "frameBack", named := ["bitemporal/frame.halfByteSteps"], apart := false, laid := [("bitemporal/frame.halfByteSteps", laid_bitemporal_frame_halfByteSteps)], narrowed := true }
def FrameBackUptoSaid : Prop := frameBackUptoRow.holds Tryd.pinned (OpenSpec.upto frameBackSpec)

/-- 'bitemporallaw10.FrameDamage', WHERE WHAT IT READS IS OF BULK AT MOST 1048576: true; the input reads as it did. -/
def frameDamageUptoRow : OpenClaim := { program := "ytkhdfjneibnlmaadoor", sum := "efb58e52d7f4e81af8301777ab1780ea6f23051d79276277753f528b44a89545", func := "bitemporal/bitemporallaw10.FrameDamage", spec := "frameDamage", named := ["bitemporal/frame.halfByteSteps"], apart := false, laid := [("bitemporal/frame.halfByteSteps", laid_bitemporal_frame_halfByteSteps)], narrowed := true }
def FrameDamageUptoSaid : Prop := frameDamageUptoRow.holds Tryd.pinned (OpenSpec.upto frameDamageSpec)

end Rows
end Go.Proofs.YtkhdfjneibnlmaaDoor
