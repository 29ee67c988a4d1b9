/-
  DERIVED. GIVEN WITH THE SEED: THE CARDS: each row of YtglgldmofibedaaGreatDoorRows.lean that lists a variable, with what it lists TIED to the program's text (the seventh form; the later family's looks); each row that meets fmt, with fmt's text TOLD by the authors' own Lean function (tested against real Go, not proved from fmt's source: count such statements apart). THE CARD IS WHAT COUNTS. Prove the row's statement (the work); the ties are given (YtglgldmofibedaaGreatDoorTie.lean); close each card by the builder's one call (the guide's Derived/Test/ToyasCard.lean, 'card_holds'). Laid BY PROGRAM, IN A SANDBOX (cutbox-door.mjs). By AI agents, Wed Nov 11 2026. No macro, syntax, notation, axiom, sorry.
-/
import Derived.Test.YtglgldmofibedaaGreatDoorRows
import GoSem.ClaimSeven
namespace Go.Proofs.YtglgldmofibedaaGreatDoor
namespace Rows

/-- THE TIED CARD OF 'turnkeylaw27.ArithApplies'. -/
def arithAppliesCard : Claim7 := { stood := { row := arithAppliesRow, standIns := [], harness := (true, "01b629829b7a557a50cd3240fd88329f6f754054d3be93ba1605c704e672ef28"), looks := true }, kinds := [], alts := [], laidByText := true, laidKinds := [.data, .data, .data, .data, .handle, .sentinel, .sentinel, .widerDeep, .data, .pinned], laidTests := true, laidLooks := .later }
def ArithAppliesCardSaid : Prop := Claim7.holds Tryz.pinned (.plain (OpenSpec.ofChange arithAppliesSpec)) arithAppliesCard

/-- THE TIED CARD OF 'turnkeylaw27.ArithBack'. -/
def arithBackCard : Claim7 := { stood := { row := arithBackRow, standIns := [], harness := (true, "01b629829b7a557a50cd3240fd88329f6f754054d3be93ba1605c704e672ef28"), looks := true }, kinds := [], alts := [], laidByText := true, laidKinds := [.data, .data, .data, .data, .handle, .sentinel, .sentinel, .widerDeep, .data, .pinned], laidTests := true, laidLooks := .later }
def ArithBackCardSaid : Prop := Claim7.holds Tryz.pinned (.plain (OpenSpec.ofChange arithBackSpec)) arithBackCard

/-- THE TIED CARD OF 'turnkeylaw27.ArithBrackets'. -/
def arithBracketsCard : Claim7 := { stood := { row := arithBracketsRow, standIns := [], harness := (true, "01b629829b7a557a50cd3240fd88329f6f754054d3be93ba1605c704e672ef28"), looks := true }, kinds := [], alts := [], laidByText := true, laidKinds := [.data, .data, .data, .data, .handle, .sentinel, .sentinel, .widerDeep, .data, .pinned], laidTests := true, laidLooks := .later }
def ArithBracketsCardSaid : Prop := Claim7.holds Tryz.pinned (.plain (OpenSpec.ofChange arithBracketsSpec)) arithBracketsCard

/-- THE SECOND FORM's CARD OF 'turnkeylaw27.ArithApplies'. -/
def arithAppliesUptoCard : Claim7 := { stood := { row := arithAppliesUptoRow, standIns := [], harness := (true, "01b629829b7a557a50cd3240fd88329f6f754054d3be93ba1605c704e672ef28"), looks := true }, kinds := [], alts := [], laidByText := true, laidKinds := [.data, .data, .data, .data, .handle, .sentinel, .sentinel, .widerDeep, .data, .pinned], laidTests := true, laidLooks := .later }
def ArithAppliesUptoCardSaid : Prop := Claim7.holds Tryz.pinned (.plain (OpenSpec.upto arithAppliesSpec)) arithAppliesUptoCard

/-- THE SECOND FORM's CARD OF 'turnkeylaw27.ArithBack'. -/
def arithBackUptoCard : Claim7 := { stood := { row := arithBackUptoRow, standIns := [], harness := (true, "01b629829b7a557a50cd3240fd88329f6f754054d3be93ba1605c704e672ef28"), looks := true }, kinds := [], alts := [], laidByText := true, laidKinds := [.data, .data, .data, .data, .handle, .sentinel, .sentinel, .widerDeep, .data, .pinned], laidTests := true, laidLooks := .later }
def ArithBackUptoCardSaid : Prop := Claim7.holds Tryz.pinned (.plain (OpenSpec.upto arithBackSpec)) arithBackUptoCard

/-- THE SECOND FORM's CARD OF 'turnkeylaw27.ArithBrackets'. -/
def arithBracketsUptoCard : Claim7 := { stood := { row := arithBracketsUptoRow, standIns := [], harness := (true, "01b629829b7a557a50cd3240fd88329f6f754054d3be93ba1605c704e672ef28"), looks := true }, kinds := [], alts := [], laidByText := true, laidKinds := [.data, .data, .data, .data, .handle, .sentinel, .sentinel, .widerDeep, .data, .pinned], laidTests := true, laidLooks := .later }
def ArithBracketsUptoCardSaid : Prop := Claim7.holds Tryz.pinned (.plain (OpenSpec.upto arithBracketsSpec)) arithBracketsUptoCard
end Rows
end Go.Proofs.YtglgldmofibedaaGreatDoor
