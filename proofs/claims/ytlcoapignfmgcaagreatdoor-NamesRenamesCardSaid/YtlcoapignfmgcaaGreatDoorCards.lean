/-
  DERIVED. GIVEN WITH THE SEED: THE CARDS: each row of YtlcoapignfmgcaaGreatDoorRows.lean that lists a variable, with what it lists TIED to the program's text (the seventh form; the later family's looks); each row that meets fmt, with fmt's text TOLD by the authors' own Lean function (tested against real Go, not proved from fmt's source: count such statements apart). THE CARD IS WHAT COUNTS. Prove the row's statement (the work); the ties are given (YtlcoapignfmgcaaGreatDoorTie.lean); close each card by the builder's one call (the guide's Derived/Test/ToyasCard.lean, 'card_holds'). Laid BY PROGRAM, IN A SANDBOX (cutbox-door.mjs). By AI agents, Wed Nov 11 2026. No macro, syntax, notation, axiom, sorry.
-/
import Derived.Test.YtlcoapignfmgcaaGreatDoorRows
import GoSem.ClaimSeven
namespace Go.Proofs.YtlcoapignfmgcaaGreatDoor
namespace Rows

/-- THE TIED CARD OF 'turnkeylaw15.NamesMakes'. -/
def namesMakesCard : Claim7 := { stood := { row := namesMakesRow, standIns := [], harness := (true, "5664ca12749fdd01ea6e8a19946f6fedc9e02c495e3284aefe3796391672a64d"), looks := false }, kinds := [], alts := [], laidByText := true, laidKinds := [.data, .pinned], laidTests := true, laidLooks := .later }
def NamesMakesCardSaid : Prop := Claim7.holds Tryz.pinned (.plain (OpenSpec.ofChange namesMakesSpec)) namesMakesCard

/-- THE TIED CARD OF 'turnkeylaw15.NamesRenames'. -/
def namesRenamesCard : Claim7 := { stood := { row := namesRenamesRow, standIns := [], harness := (true, "5664ca12749fdd01ea6e8a19946f6fedc9e02c495e3284aefe3796391672a64d"), looks := false }, kinds := [], alts := [], laidByText := true, laidKinds := [.data, .pinned], laidTests := true, laidLooks := .later }
def NamesRenamesCardSaid : Prop := Claim7.holds Tryz.pinned (.plain (OpenSpec.ofChange namesRenamesSpec)) namesRenamesCard

/-- THE TIED CARD OF 'turnkeylaw15.NamesWrites'. -/
def namesWritesCard : Claim7 := { stood := { row := namesWritesRow, standIns := [], harness := (true, "5664ca12749fdd01ea6e8a19946f6fedc9e02c495e3284aefe3796391672a64d"), looks := false }, kinds := [], alts := [], laidByText := true, laidKinds := [.data, .pinned], laidTests := true, laidLooks := .later }
def NamesWritesCardSaid : Prop := Claim7.holds Tryz.pinned (.plain (OpenSpec.ofChange namesWritesSpec)) namesWritesCard

/-- THE SECOND FORM's CARD OF 'turnkeylaw15.NamesMakes'. -/
def namesMakesUptoCard : Claim7 := { stood := { row := namesMakesUptoRow, standIns := [], harness := (true, "5664ca12749fdd01ea6e8a19946f6fedc9e02c495e3284aefe3796391672a64d"), looks := false }, kinds := [], alts := [], laidByText := true, laidKinds := [.data, .pinned], laidTests := true, laidLooks := .later }
def NamesMakesUptoCardSaid : Prop := Claim7.holds Tryz.pinned (.plain (OpenSpec.upto namesMakesSpec)) namesMakesUptoCard

/-- THE SECOND FORM's CARD OF 'turnkeylaw15.NamesRenames'. -/
def namesRenamesUptoCard : Claim7 := { stood := { row := namesRenamesUptoRow, standIns := [], harness := (true, "5664ca12749fdd01ea6e8a19946f6fedc9e02c495e3284aefe3796391672a64d"), looks := false }, kinds := [], alts := [], laidByText := true, laidKinds := [.data, .pinned], laidTests := true, laidLooks := .later }
def NamesRenamesUptoCardSaid : Prop := Claim7.holds Tryz.pinned (.plain (OpenSpec.upto namesRenamesSpec)) namesRenamesUptoCard

/-- THE SECOND FORM's CARD OF 'turnkeylaw15.NamesWrites'. -/
def namesWritesUptoCard : Claim7 := { stood := { row := namesWritesUptoRow, standIns := [], harness := (true, "5664ca12749fdd01ea6e8a19946f6fedc9e02c495e3284aefe3796391672a64d"), looks := false }, kinds := [], alts := [], laidByText := true, laidKinds := [.data, .pinned], laidTests := true, laidLooks := .later }
def NamesWritesUptoCardSaid : Prop := Claim7.holds Tryz.pinned (.plain (OpenSpec.upto namesWritesSpec)) namesWritesUptoCard
end Rows
end Go.Proofs.YtlcoapignfmgcaaGreatDoor
