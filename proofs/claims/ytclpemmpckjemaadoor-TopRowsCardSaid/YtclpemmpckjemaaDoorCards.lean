/-
  DERIVED. GIVEN WITH THE SEED: THE CARDS: each row of YtclpemmpckjemaaDoorRows.lean that lists a variable, with what it lists TIED to the program's text (the seventh form; the later family's looks); each row that meets fmt, with fmt's text TOLD by the authors' own Lean function (tested against real Go, not proved from fmt's source: count such statements apart). THE CARD IS WHAT COUNTS. Prove the row's statement (the work); the ties are given (YtclpemmpckjemaaDoorTie.lean); close each card by the builder's one call (the guide's Derived/Test/ToyasCard.lean, 'card_holds'). Laid BY PROGRAM, IN A SANDBOX (cutbox-door.mjs). By AI agents, Wed Nov 11 2026. No macro, syntax, notation, axiom, sorry.
-/
import Derived.Test.YtclpemmpckjemaaDoorRows
import GoSem.ClaimSeven
namespace Go.Proofs.YtclpemmpckjemaaDoor
namespace Rows

/-- THE TIED CARD OF 'bitemporaltop.TopRows'. -/
def topRowsCard : Claim7 := { stood := { row := topRowsRow, standIns := [], harness := (true, "43b9bf12abe136e9df921e45dd0d594fcb6066555b52edab4daaec249b9c9b51"), looks := false }, kinds := [], alts := [], laidByText := true, laidKinds := [.data], laidTests := true, laidLooks := .later }
def TopRowsCardSaid : Prop := Claim7.holds Tryd.pinned (.plain (OpenSpec.ofChange topRowsSpec)) topRowsCard

/-- THE SECOND FORM's CARD OF 'bitemporaltop.TopRows'. -/
def topRowsUptoCard : Claim7 := { stood := { row := topRowsUptoRow, standIns := [], harness := (true, "43b9bf12abe136e9df921e45dd0d594fcb6066555b52edab4daaec249b9c9b51"), looks := false }, kinds := [], alts := [], laidByText := true, laidKinds := [.data], laidTests := true, laidLooks := .later }
def TopRowsUptoCardSaid : Prop := Claim7.holds Tryd.pinned (.plain (OpenSpec.upto topRowsSpec)) topRowsUptoCard
end Rows
end Go.Proofs.YtclpemmpckjemaaDoor
