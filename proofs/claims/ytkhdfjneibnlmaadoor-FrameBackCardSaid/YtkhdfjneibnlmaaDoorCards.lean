/-
  DERIVED. GIVEN WITH THE SEED: THE CARDS: each row of YtkhdfjneibnlmaaDoorRows.lean that lists a variable, with what it lists TIED to the program's text (the seventh form; the later family's looks); each row that meets fmt, with fmt's text TOLD by the authors' own Lean function (tested against real Go, not proved from fmt's source: count such statements apart). THE CARD IS WHAT COUNTS. Prove the row's statement (the work); the ties are given (YtkhdfjneibnlmaaDoorTie.lean); close each card by the builder's one call (the guide's Derived/Test/ToyasCard.lean, 'card_holds'). Laid BY PROGRAM, IN A SANDBOX (cutbox-door.mjs). By AI agents, Wed Nov 11 2026. No macro, syntax, notation, axiom, sorry.
-/
import Derived.Test.YtkhdfjneibnlmaaDoorRows
import GoSem.ClaimSeven
namespace Go.Proofs.YtkhdfjneibnlmaaDoor
namespace Rows

/-- THE TIED CARD OF 'bitemporallaw10.FrameSum'. -/
def frameSumCard : Claim7 := { stood := { row := frameSumRow, standIns := [], harness := (true, "058e8ee2696a5c12dd6b4da4d1813196058ad4c94741a3b728b5f749ff4c8f32"), looks := false }, kinds := [], alts := [], laidByText := true, laidKinds := [.data], laidTests := true, laidLooks := .later }
def FrameSumCardSaid : Prop := Claim7.holds Tryd.pinned (.plain (OpenSpec.ofChange frameSumSpec)) frameSumCard

/-- THE TIED CARD OF 'bitemporallaw10.FrameAppend'. -/
def frameAppendCard : Claim7 := { stood := { row := frameAppendRow, standIns := [], harness := (true, "058e8ee2696a5c12dd6b4da4d1813196058ad4c94741a3b728b5f749ff4c8f32"), looks := false }, kinds := [], alts := [], laidByText := true, laidKinds := [.data], laidTests := true, laidLooks := .later }
def FrameAppendCardSaid : Prop := Claim7.holds Tryd.pinned (.plain (OpenSpec.ofChange frameAppendSpec)) frameAppendCard

/-- THE TIED CARD OF 'bitemporallaw10.FrameNext'. -/
def frameNextCard : Claim7 := { stood := { row := frameNextRow, standIns := [], harness := (true, "058e8ee2696a5c12dd6b4da4d1813196058ad4c94741a3b728b5f749ff4c8f32"), looks := false }, kinds := [], alts := [], laidByText := true, laidKinds := [.data], laidTests := true, laidLooks := .later }
def FrameNextCardSaid : Prop := Claim7.holds Tryd.pinned (.plain (OpenSpec.ofChange frameNextSpec)) frameNextCard

/-- THE TIED CARD OF 'bitemporallaw10.FrameScan'. -/
def frameScanCard : Claim7 := { stood := { row := frameScanRow, standIns := [], harness := (true, "058e8ee2696a5c12dd6b4da4d1813196058ad4c94741a3b728b5f749ff4c8f32"), looks := false }, kinds := [], alts := [], laidByText := true, laidKinds := [.data], laidTests := true, laidLooks := .later }
def FrameScanCardSaid : Prop := Claim7.holds Tryd.pinned (.plain (OpenSpec.ofChange frameScanSpec)) frameScanCard

/-- THE TIED CARD OF 'bitemporallaw10.FrameBack'. -/
def frameBackCard : Claim7 := { stood := { row := frameBackRow, standIns := [], harness := (true, "058e8ee2696a5c12dd6b4da4d1813196058ad4c94741a3b728b5f749ff4c8f32"), looks := false }, kinds := [], alts := [], laidByText := true, laidKinds := [.data], laidTests := true, laidLooks := .later }
def FrameBackCardSaid : Prop := Claim7.holds Tryd.pinned (.plain (OpenSpec.ofChange frameBackSpec)) frameBackCard

/-- THE TIED CARD OF 'bitemporallaw10.FrameDamage'. -/
def frameDamageCard : Claim7 := { stood := { row := frameDamageRow, standIns := [], harness := (true, "058e8ee2696a5c12dd6b4da4d1813196058ad4c94741a3b728b5f749ff4c8f32"), looks := false }, kinds := [], alts := [], laidByText := true, laidKinds := [.data], laidTests := true, laidLooks := .later }
def FrameDamageCardSaid : Prop := Claim7.holds Tryd.pinned (.plain (OpenSpec.ofChange frameDamageSpec)) frameDamageCard

/-- THE SECOND FORM's CARD OF 'bitemporallaw10.FrameSum'. -/
def frameSumUptoCard : Claim7 := { stood := { row := frameSumUptoRow, standIns := [], harness := (true, "058e8ee2696a5c12dd6b4da4d1813196058ad4c94741a3b728b5f749ff4c8f32"), looks := false }, kinds := [], alts := [], laidByText := true, laidKinds := [.data], laidTests := true, laidLooks := .later }
def FrameSumUptoCardSaid : Prop := Claim7.holds Tryd.pinned (.plain (OpenSpec.upto frameSumSpec)) frameSumUptoCard

/-- THE SECOND FORM's CARD OF 'bitemporallaw10.FrameAppend'. -/
def frameAppendUptoCard : Claim7 := { stood := { row := frameAppendUptoRow, standIns := [], harness := (true, "058e8ee2696a5c12dd6b4da4d1813196058ad4c94741a3b728b5f749ff4c8f32"), looks := false }, kinds := [], alts := [], laidByText := true, laidKinds := [.data], laidTests := true, laidLooks := .later }
def FrameAppendUptoCardSaid : Prop := Claim7.holds Tryd.pinned (.plain (OpenSpec.upto frameAppendSpec)) frameAppendUptoCard

/-- THE SECOND FORM's CARD OF 'bitemporallaw10.FrameNext'. -/
def frameNextUptoCard : Claim7 := { stood := { row := frameNextUptoRow, standIns := [], harness := (true, "058e8ee2696a5c12dd6b4da4d1813196058ad4c94741a3b728b5f749ff4c8f32"), looks := false }, kinds := [], alts := [], laidByText := true, laidKinds := [.data], laidTests := true, laidLooks := .later }
def FrameNextUptoCardSaid : Prop := Claim7.holds Tryd.pinned (.plain (OpenSpec.upto frameNextSpec)) frameNextUptoCard

/-- THE SECOND FORM's CARD OF 'bitemporallaw10.FrameScan'. -/
def frameScanUptoCard : Claim7 := { stood := { row := frameScanUptoRow, standIns := [], harness := (true, "058e8ee2696a5c12dd6b4da4d1813196058ad4c94741a3b728b5f749ff4c8f32"), looks := false }, kinds := [], alts := [], laidByText := true, laidKinds := [.data], laidTests := true, laidLooks := .later }
def FrameScanUptoCardSaid : Prop := Claim7.holds Tryd.pinned (.plain (OpenSpec.upto frameScanSpec)) frameScanUptoCard

/-- THE SECOND FORM's CARD OF 'bitemporallaw10.FrameBack'. -/
def frameBackUptoCard : Claim7 := { stood := { row := frameBackUptoRow, standIns := [], harness := (true, "058e8ee2696a5c12dd6b4da4d1813196058ad4c94741a3b728b5f749ff4c8f32"), looks := false }, kinds := [], alts := [], laidByText := true, laidKinds := [.data], laidTests := true, laidLooks := .later }
def FrameBackUptoCardSaid : Prop := Claim7.holds Tryd.pinned (.plain (OpenSpec.upto frameBackSpec)) frameBackUptoCard

/-- THE SECOND FORM's CARD OF 'bitemporallaw10.FrameDamage'. -/
def frameDamageUptoCard : Claim7 := { stood := { row := frameDamageUptoRow, standIns := [], harness := (true, "058e8ee2696a5c12dd6b4da4d1813196058ad4c94741a3b728b5f749ff4c8f32"), looks := false }, kinds := [], alts := [], laidByText := true, laidKinds := [.data], laidTests := true, laidLooks := .later }
def FrameDamageUptoCardSaid : Prop := Claim7.holds Tryd.pinned (.plain (OpenSpec.upto frameDamageSpec)) frameDamageUptoCard
end Rows
end Go.Proofs.YtkhdfjneibnlmaaDoor
