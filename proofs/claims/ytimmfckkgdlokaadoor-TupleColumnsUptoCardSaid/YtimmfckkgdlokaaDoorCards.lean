/-
  DERIVED. GIVEN WITH THE SEED: THE CARDS: each row of YtimmfckkgdlokaaDoorRows.lean that lists a variable, with what it lists TIED to the program's text (the seventh form; the later family's looks); each row that meets fmt, with fmt's text TOLD by the authors' own Lean function (tested against real Go, not proved from fmt's source: count such statements apart). THE CARD IS WHAT COUNTS. Prove the row's statement (the work); the ties are given (YtimmfckkgdlokaaDoorTie.lean); close each card by the builder's one call (the guide's Derived/Test/ToyasCard.lean, 'card_holds'). Laid BY PROGRAM, IN A SANDBOX (cutbox-door.mjs). By AI agents, Wed Nov 11 2026. No macro, syntax, notation, axiom, sorry.
-/
import Derived.Test.YtimmfckkgdlokaaDoorRows
import GoSem.ClaimSeven
namespace Go.Proofs.YtimmfckkgdlokaaDoor
namespace Rows

/-- THE TIED CARD OF 'bitemporallaw08.TupleFits'. -/
def tupleFitsCard : Claim7 := { stood := { row := tupleFitsRow, standIns := [], harness := (true, "f2f45c8ef53541a5f29fc1b73c7e2d9209de27cca98784111a3d3add80affe6b"), looks := false }, kinds := [], alts := [], laidByText := true, laidKinds := [.data, .data, .data, .data, .pinned], laidTests := true, laidLooks := .later }
def TupleFitsCardSaid : Prop := Claim7.holds Tryd.pinned (.plain (OpenSpec.ofChange tupleFitsSpec)) tupleFitsCard

/-- THE TIED CARD OF 'bitemporallaw08.TupleCompares'. -/
def tupleComparesCard : Claim7 := { stood := { row := tupleComparesRow, standIns := [], harness := (true, "f2f45c8ef53541a5f29fc1b73c7e2d9209de27cca98784111a3d3add80affe6b"), looks := false }, kinds := [], alts := [], laidByText := true, laidKinds := [.data, .data, .data, .data, .pinned], laidTests := true, laidLooks := .later }
def TupleComparesCardSaid : Prop := Claim7.holds Tryd.pinned (.plain (OpenSpec.ofChange tupleComparesSpec)) tupleComparesCard

/-- THE TIED CARD OF 'bitemporallaw08.TupleOrders'. -/
def tupleOrdersCard : Claim7 := { stood := { row := tupleOrdersRow, standIns := [], harness := (true, "f2f45c8ef53541a5f29fc1b73c7e2d9209de27cca98784111a3d3add80affe6b"), looks := false }, kinds := [], alts := [], laidByText := true, laidKinds := [.data, .data, .data, .data, .pinned], laidTests := true, laidLooks := .later }
def TupleOrdersCardSaid : Prop := Claim7.holds Tryd.pinned (.plain (OpenSpec.ofChange tupleOrdersSpec)) tupleOrdersCard

/-- THE TIED CARD OF 'bitemporallaw08.TupleTexts'. -/
def tupleTextsCard : Claim7 := { stood := { row := tupleTextsRow, standIns := [], harness := (true, "f2f45c8ef53541a5f29fc1b73c7e2d9209de27cca98784111a3d3add80affe6b"), looks := false }, kinds := [], alts := [], laidByText := true, laidKinds := [.data, .data, .data, .data, .pinned], laidTests := true, laidLooks := .later }
def TupleTextsCardSaid : Prop := Claim7.holds Tryd.pinned (.plain (OpenSpec.ofChange tupleTextsSpec)) tupleTextsCard

/-- THE TIED CARD OF 'bitemporallaw08.TupleMultiset'. -/
def tupleMultisetCard : Claim7 := { stood := { row := tupleMultisetRow, standIns := [], harness := (true, "f2f45c8ef53541a5f29fc1b73c7e2d9209de27cca98784111a3d3add80affe6b"), looks := false }, kinds := [], alts := [], laidByText := true, laidKinds := [.data, .data, .data, .data, .pinned], laidTests := true, laidLooks := .later }
def TupleMultisetCardSaid : Prop := Claim7.holds Tryd.pinned (.plain (OpenSpec.ofChange tupleMultisetSpec)) tupleMultisetCard

/-- THE TIED CARD OF 'bitemporallaw08.TupleColumns'. -/
def tupleColumnsCard : Claim7 := { stood := { row := tupleColumnsRow, standIns := [], harness := (true, "f2f45c8ef53541a5f29fc1b73c7e2d9209de27cca98784111a3d3add80affe6b"), looks := false }, kinds := [], alts := [], laidByText := true, laidKinds := [.data, .data, .data, .data, .pinned], laidTests := true, laidLooks := .later }
def TupleColumnsCardSaid : Prop := Claim7.holds Tryd.pinned (.plain (OpenSpec.ofChange tupleColumnsSpec)) tupleColumnsCard

/-- THE SECOND FORM's CARD OF 'bitemporallaw08.TupleFits'. -/
def tupleFitsUptoCard : Claim7 := { stood := { row := tupleFitsUptoRow, standIns := [], harness := (true, "f2f45c8ef53541a5f29fc1b73c7e2d9209de27cca98784111a3d3add80affe6b"), looks := false }, kinds := [], alts := [], laidByText := true, laidKinds := [.data, .data, .data, .data, .pinned], laidTests := true, laidLooks := .later }
def TupleFitsUptoCardSaid : Prop := Claim7.holds Tryd.pinned (.plain (OpenSpec.upto tupleFitsSpec)) tupleFitsUptoCard

/-- THE SECOND FORM's CARD OF 'bitemporallaw08.TupleCompares'. -/
def tupleComparesUptoCard : Claim7 := { stood := { row := tupleComparesUptoRow, standIns := [], harness := (true, "f2f45c8ef53541a5f29fc1b73c7e2d9209de27cca98784111a3d3add80affe6b"), looks := false }, kinds := [], alts := [], laidByText := true, laidKinds := [.data, .data, .data, .data, .pinned], laidTests := true, laidLooks := .later }
def TupleComparesUptoCardSaid : Prop := Claim7.holds Tryd.pinned (.plain (OpenSpec.upto tupleComparesSpec)) tupleComparesUptoCard

/-- THE SECOND FORM's CARD OF 'bitemporallaw08.TupleOrders'. -/
def tupleOrdersUptoCard : Claim7 := { stood := { row := tupleOrdersUptoRow, standIns := [], harness := (true, "f2f45c8ef53541a5f29fc1b73c7e2d9209de27cca98784111a3d3add80affe6b"), looks := false }, kinds := [], alts := [], laidByText := true, laidKinds := [.data, .data, .data, .data, .pinned], laidTests := true, laidLooks := .later }
def TupleOrdersUptoCardSaid : Prop := Claim7.holds Tryd.pinned (.plain (OpenSpec.upto tupleOrdersSpec)) tupleOrdersUptoCard

/-- THE SECOND FORM's CARD OF 'bitemporallaw08.TupleTexts'. -/
def tupleTextsUptoCard : Claim7 := { stood := { row := tupleTextsUptoRow, standIns := [], harness := (true, "f2f45c8ef53541a5f29fc1b73c7e2d9209de27cca98784111a3d3add80affe6b"), looks := false }, kinds := [], alts := [], laidByText := true, laidKinds := [.data, .data, .data, .data, .pinned], laidTests := true, laidLooks := .later }
def TupleTextsUptoCardSaid : Prop := Claim7.holds Tryd.pinned (.plain (OpenSpec.upto tupleTextsSpec)) tupleTextsUptoCard

/-- THE SECOND FORM's CARD OF 'bitemporallaw08.TupleMultiset'. -/
def tupleMultisetUptoCard : Claim7 := { stood := { row := tupleMultisetUptoRow, standIns := [], harness := (true, "f2f45c8ef53541a5f29fc1b73c7e2d9209de27cca98784111a3d3add80affe6b"), looks := false }, kinds := [], alts := [], laidByText := true, laidKinds := [.data, .data, .data, .data, .pinned], laidTests := true, laidLooks := .later }
def TupleMultisetUptoCardSaid : Prop := Claim7.holds Tryd.pinned (.plain (OpenSpec.upto tupleMultisetSpec)) tupleMultisetUptoCard

/-- THE SECOND FORM's CARD OF 'bitemporallaw08.TupleColumns'. -/
def tupleColumnsUptoCard : Claim7 := { stood := { row := tupleColumnsUptoRow, standIns := [], harness := (true, "f2f45c8ef53541a5f29fc1b73c7e2d9209de27cca98784111a3d3add80affe6b"), looks := false }, kinds := [], alts := [], laidByText := true, laidKinds := [.data, .data, .data, .data, .pinned], laidTests := true, laidLooks := .later }
def TupleColumnsUptoCardSaid : Prop := Claim7.holds Tryd.pinned (.plain (OpenSpec.upto tupleColumnsSpec)) tupleColumnsUptoCard
end Rows
end Go.Proofs.YtimmfckkgdlokaaDoor
