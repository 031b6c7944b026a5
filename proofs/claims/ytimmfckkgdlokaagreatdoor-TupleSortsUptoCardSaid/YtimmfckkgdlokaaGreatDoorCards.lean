/-
  DERIVED. GIVEN WITH THE SEED: THE CARDS: each row of YtimmfckkgdlokaaGreatDoorRows.lean that lists a variable, with what it lists TIED to the program's text (the seventh form; the later family's looks); each row that meets fmt, with fmt's text TOLD by the authors' own Lean function (tested against real Go, not proved from fmt's source: count such statements apart). THE CARD IS WHAT COUNTS. Prove the row's statement (the work); the ties are given (YtimmfckkgdlokaaGreatDoorTie.lean); close each card by the builder's one call (the guide's Derived/Test/ToyasCard.lean, 'card_holds'). Laid BY PROGRAM, IN A SANDBOX (cutbox-door.mjs). By AI agents, Wed Nov 11 2026. No macro, syntax, notation, axiom, sorry.
-/
import Derived.Test.YtimmfckkgdlokaaGreatDoorRows
import GoSem.ClaimSeven
namespace Go.Proofs.YtimmfckkgdlokaaGreatDoor
namespace Rows

/-- THE TIED CARD OF 'bitemporallaw08.TupleSorts'. -/
def tupleSortsCard : Claim7 := { stood := { row := tupleSortsRow, standIns := [], harness := (true, "dd15358c050f519f3871239089019b22c1b61fc67795509cf374898a2e942be6"), looks := false }, kinds := [], alts := [], laidByText := true, laidKinds := [.data, .data, .data, .data, .pinned], laidTests := true, laidLooks := .later }
def TupleSortsCardSaid : Prop := Claim7.holds Tryz.pinned (.plain (OpenSpec.ofChange tupleSortsSpec)) tupleSortsCard

/-- THE SECOND FORM's CARD OF 'bitemporallaw08.TupleSorts'. -/
def tupleSortsUptoCard : Claim7 := { stood := { row := tupleSortsUptoRow, standIns := [], harness := (true, "dd15358c050f519f3871239089019b22c1b61fc67795509cf374898a2e942be6"), looks := false }, kinds := [], alts := [], laidByText := true, laidKinds := [.data, .data, .data, .data, .pinned], laidTests := true, laidLooks := .later }
def TupleSortsUptoCardSaid : Prop := Claim7.holds Tryz.pinned (.plain (OpenSpec.upto tupleSortsSpec)) tupleSortsUptoCard
end Rows
end Go.Proofs.YtimmfckkgdlokaaGreatDoor
