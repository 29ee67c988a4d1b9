/-
  DERIVED. GIVEN WITH THE SEED: THE CARDS: each row of YtkiahjfcnhpblaaDoorRows.lean that lists a variable, with what it lists TIED to the program's text (the seventh form; the later family's looks); each row that meets fmt, with fmt's text TOLD by the authors' own Lean function (tested against real Go, not proved from fmt's source: count such statements apart). THE CARD IS WHAT COUNTS. Prove the row's statement (the work); the ties are given (YtkiahjfcnhpblaaDoorTie.lean); close each card by the builder's one call (the guide's Derived/Test/ToyasCard.lean, 'card_holds'). Laid BY PROGRAM, IN A SANDBOX (cutbox-door.mjs). By AI agents, Wed Nov 11 2026. No macro, syntax, notation, axiom, sorry.
-/
import Derived.Test.YtkiahjfcnhpblaaDoorRows
import GoSem.ClaimSeven
namespace Go.Proofs.YtkiahjfcnhpblaaDoor
namespace Rows

/-- THE TIED CARD OF 'turnkeylaw31.TestEvals'. -/
def testEvalsCard : Claim7 := { stood := { row := testEvalsRow, standIns := [], harness := (true, "743b7496c7cfb8f6368306d05aa985ae3724117e7e3b0d8ec688ff2dc573e3eb"), looks := true }, kinds := [], alts := [], laidByText := true, laidKinds := [.data, .data, .data, .sentinel, .sentinel], laidTests := true, laidLooks := .later }
def TestEvalsCardSaid : Prop := Claim7.holds Tryd.pinned (.plain (OpenSpec.ofChange testEvalsSpec)) testEvalsCard

/-- THE TIED CARD OF 'turnkeylaw31.TestTurns'. -/
def testTurnsCard : Claim7 := { stood := { row := testTurnsRow, standIns := [], harness := (true, "743b7496c7cfb8f6368306d05aa985ae3724117e7e3b0d8ec688ff2dc573e3eb"), looks := true }, kinds := [], alts := [], laidByText := true, laidKinds := [.data, .data, .data, .sentinel, .sentinel], laidTests := true, laidLooks := .later }
def TestTurnsCardSaid : Prop := Claim7.holds Tryd.pinned (.plain (OpenSpec.ofChange testTurnsSpec)) testTurnsCard

/-- THE TIED CARD OF 'turnkeylaw31.TestOrders'. -/
def testOrdersCard : Claim7 := { stood := { row := testOrdersRow, standIns := [], harness := (true, "743b7496c7cfb8f6368306d05aa985ae3724117e7e3b0d8ec688ff2dc573e3eb"), looks := true }, kinds := [], alts := [], laidByText := true, laidKinds := [.data, .data, .data, .sentinel, .sentinel], laidTests := true, laidLooks := .later }
def TestOrdersCardSaid : Prop := Claim7.holds Tryd.pinned (.plain (OpenSpec.ofChange testOrdersSpec)) testOrdersCard

/-- THE SECOND FORM's CARD OF 'turnkeylaw31.TestEvals'. -/
def testEvalsUptoCard : Claim7 := { stood := { row := testEvalsUptoRow, standIns := [], harness := (true, "743b7496c7cfb8f6368306d05aa985ae3724117e7e3b0d8ec688ff2dc573e3eb"), looks := true }, kinds := [], alts := [], laidByText := true, laidKinds := [.data, .data, .data, .sentinel, .sentinel], laidTests := true, laidLooks := .later }
def TestEvalsUptoCardSaid : Prop := Claim7.holds Tryd.pinned (.plain (OpenSpec.upto testEvalsSpec)) testEvalsUptoCard

/-- THE SECOND FORM's CARD OF 'turnkeylaw31.TestTurns'. -/
def testTurnsUptoCard : Claim7 := { stood := { row := testTurnsUptoRow, standIns := [], harness := (true, "743b7496c7cfb8f6368306d05aa985ae3724117e7e3b0d8ec688ff2dc573e3eb"), looks := true }, kinds := [], alts := [], laidByText := true, laidKinds := [.data, .data, .data, .sentinel, .sentinel], laidTests := true, laidLooks := .later }
def TestTurnsUptoCardSaid : Prop := Claim7.holds Tryd.pinned (.plain (OpenSpec.upto testTurnsSpec)) testTurnsUptoCard

/-- THE SECOND FORM's CARD OF 'turnkeylaw31.TestOrders'. -/
def testOrdersUptoCard : Claim7 := { stood := { row := testOrdersUptoRow, standIns := [], harness := (true, "743b7496c7cfb8f6368306d05aa985ae3724117e7e3b0d8ec688ff2dc573e3eb"), looks := true }, kinds := [], alts := [], laidByText := true, laidKinds := [.data, .data, .data, .sentinel, .sentinel], laidTests := true, laidLooks := .later }
def TestOrdersUptoCardSaid : Prop := Claim7.holds Tryd.pinned (.plain (OpenSpec.upto testOrdersSpec)) testOrdersUptoCard
end Rows
end Go.Proofs.YtkiahjfcnhpblaaDoor
