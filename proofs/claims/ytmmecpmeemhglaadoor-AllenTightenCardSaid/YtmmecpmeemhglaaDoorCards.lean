/-
  DERIVED. GIVEN WITH THE SEED: THE CARDS: each row of YtmmecpmeemhglaaDoorRows.lean that lists a variable, with what it lists TIED to the program's text (the seventh form; the later family's looks); each row that meets fmt, with fmt's text TOLD by the authors' own Lean function (tested against real Go, not proved from fmt's source: count such statements apart). THE CARD IS WHAT COUNTS. Prove the row's statement (the work); the ties are given (YtmmecpmeemhglaaDoorTie.lean); close each card by the builder's one call (the guide's Derived/Test/ToyasCard.lean, 'card_holds'). Laid BY PROGRAM, IN A SANDBOX (cutbox-door.mjs). By AI agents, Wed Nov 11 2026. No macro, syntax, notation, axiom, sorry.
-/
import Derived.Test.YtmmecpmeemhglaaDoorRows
import GoSem.ClaimSeven
namespace Go.Proofs.YtmmecpmeemhglaaDoor
namespace Rows

/-- THE TIED CARD OF 'bitemporallaw02.AllenOne'. -/
def allenOneCard : Claim7 := { stood := { row := allenOneRow, standIns := [], harness := (true, "6c0fa99c84037a02b5f2738c9b14653eafaaa4500e2c0f5eb4243b26b1605243"), looks := false }, kinds := [], alts := [], laidByText := true, laidKinds := [.data], laidTests := true, laidLooks := .later }
def AllenOneCardSaid : Prop := Claim7.holds Tryd.pinned (.plain (OpenSpec.ofChange allenOneSpec)) allenOneCard

/-- THE TIED CARD OF 'bitemporallaw02.AllenInverse'. -/
def allenInverseCard : Claim7 := { stood := { row := allenInverseRow, standIns := [], harness := (true, "6c0fa99c84037a02b5f2738c9b14653eafaaa4500e2c0f5eb4243b26b1605243"), looks := false }, kinds := [], alts := [], laidByText := true, laidKinds := [.data], laidTests := true, laidLooks := .later }
def AllenInverseCardSaid : Prop := Claim7.holds Tryd.pinned (.plain (OpenSpec.ofChange allenInverseSpec)) allenInverseCard

/-- THE TIED CARD OF 'bitemporallaw02.AllenComposes'. -/
def allenComposesCard : Claim7 := { stood := { row := allenComposesRow, standIns := [], harness := (true, "6c0fa99c84037a02b5f2738c9b14653eafaaa4500e2c0f5eb4243b26b1605243"), looks := false }, kinds := [], alts := [], laidByText := true, laidKinds := [.data], laidTests := true, laidLooks := .later }
def AllenComposesCardSaid : Prop := Claim7.holds Tryd.pinned (.plain (OpenSpec.ofChange allenComposesSpec)) allenComposesCard

/-- THE TIED CARD OF 'bitemporallaw02.AllenCompose'. -/
def allenComposeCard : Claim7 := { stood := { row := allenComposeRow, standIns := [], harness := (true, "6c0fa99c84037a02b5f2738c9b14653eafaaa4500e2c0f5eb4243b26b1605243"), looks := false }, kinds := [], alts := [], laidByText := true, laidKinds := [.data], laidTests := true, laidLooks := .later }
def AllenComposeCardSaid : Prop := Claim7.holds Tryd.pinned (.plain (OpenSpec.ofChange allenComposeSpec)) allenComposeCard

/-- THE TIED CARD OF 'bitemporallaw02.AllenNames'. -/
def allenNamesCard : Claim7 := { stood := { row := allenNamesRow, standIns := [], harness := (true, "6c0fa99c84037a02b5f2738c9b14653eafaaa4500e2c0f5eb4243b26b1605243"), looks := false }, kinds := [], alts := [], laidByText := true, laidKinds := [.data], laidTests := true, laidLooks := .later }
def AllenNamesCardSaid : Prop := Claim7.holds Tryd.pinned (.plain (OpenSpec.ofChange allenNamesSpec)) allenNamesCard

/-- THE TIED CARD OF 'bitemporallaw02.AllenTighten'. -/
def allenTightenCard : Claim7 := { stood := { row := allenTightenRow, standIns := [], harness := (true, "6c0fa99c84037a02b5f2738c9b14653eafaaa4500e2c0f5eb4243b26b1605243"), looks := false }, kinds := [], alts := [], laidByText := true, laidKinds := [.data], laidTests := true, laidLooks := .later }
def AllenTightenCardSaid : Prop := Claim7.holds Tryd.pinned (.plain (OpenSpec.ofChange allenTightenSpec)) allenTightenCard

/-- THE TIED CARD OF 'bitemporallaw02.AllenSound'. -/
def allenSoundCard : Claim7 := { stood := { row := allenSoundRow, standIns := [], harness := (true, "6c0fa99c84037a02b5f2738c9b14653eafaaa4500e2c0f5eb4243b26b1605243"), looks := false }, kinds := [], alts := [], laidByText := true, laidKinds := [.data], laidTests := true, laidLooks := .later }
def AllenSoundCardSaid : Prop := Claim7.holds Tryd.pinned (.plain (OpenSpec.ofChange allenSoundSpec)) allenSoundCard

/-- THE SECOND FORM's CARD OF 'bitemporallaw02.AllenOne'. -/
def allenOneUptoCard : Claim7 := { stood := { row := allenOneUptoRow, standIns := [], harness := (true, "6c0fa99c84037a02b5f2738c9b14653eafaaa4500e2c0f5eb4243b26b1605243"), looks := false }, kinds := [], alts := [], laidByText := true, laidKinds := [.data], laidTests := true, laidLooks := .later }
def AllenOneUptoCardSaid : Prop := Claim7.holds Tryd.pinned (.plain (OpenSpec.upto allenOneSpec)) allenOneUptoCard

/-- THE SECOND FORM's CARD OF 'bitemporallaw02.AllenInverse'. -/
def allenInverseUptoCard : Claim7 := { stood := { row := allenInverseUptoRow, standIns := [], harness := (true, "6c0fa99c84037a02b5f2738c9b14653eafaaa4500e2c0f5eb4243b26b1605243"), looks := false }, kinds := [], alts := [], laidByText := true, laidKinds := [.data], laidTests := true, laidLooks := .later }
def AllenInverseUptoCardSaid : Prop := Claim7.holds Tryd.pinned (.plain (OpenSpec.upto allenInverseSpec)) allenInverseUptoCard

/-- THE SECOND FORM's CARD OF 'bitemporallaw02.AllenComposes'. -/
def allenComposesUptoCard : Claim7 := { stood := { row := allenComposesUptoRow, standIns := [], harness := (true, "6c0fa99c84037a02b5f2738c9b14653eafaaa4500e2c0f5eb4243b26b1605243"), looks := false }, kinds := [], alts := [], laidByText := true, laidKinds := [.data], laidTests := true, laidLooks := .later }
def AllenComposesUptoCardSaid : Prop := Claim7.holds Tryd.pinned (.plain (OpenSpec.upto allenComposesSpec)) allenComposesUptoCard

/-- THE SECOND FORM's CARD OF 'bitemporallaw02.AllenCompose'. -/
def allenComposeUptoCard : Claim7 := { stood := { row := allenComposeUptoRow, standIns := [], harness := (true, "6c0fa99c84037a02b5f2738c9b14653eafaaa4500e2c0f5eb4243b26b1605243"), looks := false }, kinds := [], alts := [], laidByText := true, laidKinds := [.data], laidTests := true, laidLooks := .later }
def AllenComposeUptoCardSaid : Prop := Claim7.holds Tryd.pinned (.plain (OpenSpec.upto allenComposeSpec)) allenComposeUptoCard

/-- THE SECOND FORM's CARD OF 'bitemporallaw02.AllenNames'. -/
def allenNamesUptoCard : Claim7 := { stood := { row := allenNamesUptoRow, standIns := [], harness := (true, "6c0fa99c84037a02b5f2738c9b14653eafaaa4500e2c0f5eb4243b26b1605243"), looks := false }, kinds := [], alts := [], laidByText := true, laidKinds := [.data], laidTests := true, laidLooks := .later }
def AllenNamesUptoCardSaid : Prop := Claim7.holds Tryd.pinned (.plain (OpenSpec.upto allenNamesSpec)) allenNamesUptoCard

/-- THE SECOND FORM's CARD OF 'bitemporallaw02.AllenTighten'. -/
def allenTightenUptoCard : Claim7 := { stood := { row := allenTightenUptoRow, standIns := [], harness := (true, "6c0fa99c84037a02b5f2738c9b14653eafaaa4500e2c0f5eb4243b26b1605243"), looks := false }, kinds := [], alts := [], laidByText := true, laidKinds := [.data], laidTests := true, laidLooks := .later }
def AllenTightenUptoCardSaid : Prop := Claim7.holds Tryd.pinned (.plain (OpenSpec.upto allenTightenSpec)) allenTightenUptoCard

/-- THE SECOND FORM's CARD OF 'bitemporallaw02.AllenSound'. -/
def allenSoundUptoCard : Claim7 := { stood := { row := allenSoundUptoRow, standIns := [], harness := (true, "6c0fa99c84037a02b5f2738c9b14653eafaaa4500e2c0f5eb4243b26b1605243"), looks := false }, kinds := [], alts := [], laidByText := true, laidKinds := [.data], laidTests := true, laidLooks := .later }
def AllenSoundUptoCardSaid : Prop := Claim7.holds Tryd.pinned (.plain (OpenSpec.upto allenSoundSpec)) allenSoundUptoCard
end Rows
end Go.Proofs.YtmmecpmeemhglaaDoor
