/-
  DERIVED. GIVEN WITH THE SEED: THE CARDS: each row of YtlkccboongnneaaGreatDoorRows.lean that lists a variable, with what it lists TIED to the program's text (the seventh form; the later family's looks); each row that meets fmt, with fmt's text TOLD by the authors' own Lean function (tested against real Go, not proved from fmt's source: count such statements apart). THE CARD IS WHAT COUNTS. Prove the row's statement (the work); the ties are given (YtlkccboongnneaaGreatDoorTie.lean); close each card by the builder's one call (the guide's Derived/Test/ToyasCard.lean, 'card_holds'). Laid BY PROGRAM, IN A SANDBOX (cutbox-door.mjs). By AI agents, Wed Nov 11 2026. No macro, syntax, notation, axiom, sorry.
-/
import Derived.Test.YtlkccboongnneaaGreatDoorRows
import GoSem.ClaimSeven
namespace Go.Proofs.YtlkccboongnneaaGreatDoor
namespace Rows

/-- THE TIED CARD OF 'turnkeylaw18.ProgBegins'. -/
def progBeginsCard : Claim7 := { stood := { row := progBeginsRow, standIns := [], harness := (true, "d7d570d75cff726603a851fca948f04f18a3e0a0cb1a69c2558d7467ef5c965d"), looks := true }, kinds := [], alts := [], laidByText := true, laidKinds := [.data, .data, .data, .data, .sentinel, .sentinel, .pinned], laidTests := true, laidLooks := .later }
def ProgBeginsCardSaid : Prop := Claim7.holds Tryz.pinned (.plain (OpenSpec.ofChange progBeginsSpec)) progBeginsCard

/-- THE TIED CARD OF 'turnkeylaw18.ProgCopies'. -/
def progCopiesCard : Claim7 := { stood := { row := progCopiesRow, standIns := [], harness := (true, "d7d570d75cff726603a851fca948f04f18a3e0a0cb1a69c2558d7467ef5c965d"), looks := true }, kinds := [], alts := [], laidByText := true, laidKinds := [.data, .data, .data, .data, .sentinel, .sentinel, .pinned], laidTests := true, laidLooks := .later }
def ProgCopiesCardSaid : Prop := Claim7.holds Tryz.pinned (.plain (OpenSpec.ofChange progCopiesSpec)) progCopiesCard

/-- THE TIED CARD OF 'turnkeylaw18.ProgCounts'. -/
def progCountsCard : Claim7 := { stood := { row := progCountsRow, standIns := [], harness := (true, "d7d570d75cff726603a851fca948f04f18a3e0a0cb1a69c2558d7467ef5c965d"), looks := true }, kinds := [], alts := [], laidByText := true, laidKinds := [.data, .data, .data, .data, .sentinel, .sentinel, .pinned], laidTests := true, laidLooks := .later }
def ProgCountsCardSaid : Prop := Claim7.holds Tryz.pinned (.plain (OpenSpec.ofChange progCountsSpec)) progCountsCard

/-- THE SECOND FORM's CARD OF 'turnkeylaw18.ProgBegins'. -/
def progBeginsUptoCard : Claim7 := { stood := { row := progBeginsUptoRow, standIns := [], harness := (true, "d7d570d75cff726603a851fca948f04f18a3e0a0cb1a69c2558d7467ef5c965d"), looks := true }, kinds := [], alts := [], laidByText := true, laidKinds := [.data, .data, .data, .data, .sentinel, .sentinel, .pinned], laidTests := true, laidLooks := .later }
def ProgBeginsUptoCardSaid : Prop := Claim7.holds Tryz.pinned (.plain (OpenSpec.upto progBeginsSpec)) progBeginsUptoCard

/-- THE SECOND FORM's CARD OF 'turnkeylaw18.ProgCopies'. -/
def progCopiesUptoCard : Claim7 := { stood := { row := progCopiesUptoRow, standIns := [], harness := (true, "d7d570d75cff726603a851fca948f04f18a3e0a0cb1a69c2558d7467ef5c965d"), looks := true }, kinds := [], alts := [], laidByText := true, laidKinds := [.data, .data, .data, .data, .sentinel, .sentinel, .pinned], laidTests := true, laidLooks := .later }
def ProgCopiesUptoCardSaid : Prop := Claim7.holds Tryz.pinned (.plain (OpenSpec.upto progCopiesSpec)) progCopiesUptoCard

/-- THE SECOND FORM's CARD OF 'turnkeylaw18.ProgCounts'. -/
def progCountsUptoCard : Claim7 := { stood := { row := progCountsUptoRow, standIns := [], harness := (true, "d7d570d75cff726603a851fca948f04f18a3e0a0cb1a69c2558d7467ef5c965d"), looks := true }, kinds := [], alts := [], laidByText := true, laidKinds := [.data, .data, .data, .data, .sentinel, .sentinel, .pinned], laidTests := true, laidLooks := .later }
def ProgCountsUptoCardSaid : Prop := Claim7.holds Tryz.pinned (.plain (OpenSpec.upto progCountsSpec)) progCountsUptoCard
end Rows
end Go.Proofs.YtlkccboongnneaaGreatDoor
