/-
  DERIVED. GIVEN WITH THE SEED: THE CARDS: each row of YtbbobffedgcbhaaGreatDoorRows.lean that lists a variable, with what it lists TIED to the program's text (the seventh form; the later family's looks); each row that meets fmt, with fmt's text TOLD by the authors' own Lean function (tested against real Go, not proved from fmt's source: count such statements apart). THE CARD IS WHAT COUNTS. Prove the row's statement (the work); the ties are given (YtbbobffedgcbhaaGreatDoorTie.lean); close each card by the builder's one call (the guide's Derived/Test/ToyasCard.lean, 'card_holds'). Laid BY PROGRAM, IN A SANDBOX (cutbox-door.mjs). By AI agents, Wed Nov 11 2026. No macro, syntax, notation, axiom, sorry.
-/
import Derived.Test.YtbbobffedgcbhaaGreatDoorRows
import GoSem.ClaimSeven
namespace Go.Proofs.YtbbobffedgcbhaaGreatDoor
namespace Rows

/-- THE TIED CARD OF 'turnkeylaw10.AuditDoes'. -/
def auditDoesCard : Claim7 := { stood := { row := auditDoesRow, standIns := [], harness := (true, "2517761cb256f91771198b5d803e1f3b711caa82999eb6b7be522adb26ecfd13"), looks := true }, kinds := [], alts := [], laidByText := true, laidKinds := [.handle, .data, .data, .sentinel, .sentinel, .sentinel], laidTests := true, laidLooks := .later }
def AuditDoesCardSaid : Prop := Claim7.holds Tryz.pinned (.plain (OpenSpec.ofChange auditDoesSpec)) auditDoesCard

/-- THE SECOND FORM's CARD OF 'turnkeylaw10.AuditDoes'. -/
def auditDoesUptoCard : Claim7 := { stood := { row := auditDoesUptoRow, standIns := [], harness := (true, "2517761cb256f91771198b5d803e1f3b711caa82999eb6b7be522adb26ecfd13"), looks := true }, kinds := [], alts := [], laidByText := true, laidKinds := [.handle, .data, .data, .sentinel, .sentinel, .sentinel], laidTests := true, laidLooks := .later }
def AuditDoesUptoCardSaid : Prop := Claim7.holds Tryz.pinned (.plain (OpenSpec.upto auditDoesSpec)) auditDoesUptoCard
end Rows
end Go.Proofs.YtbbobffedgcbhaaGreatDoor
