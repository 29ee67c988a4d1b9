/-
  DERIVED. GIVEN WITH THE SEED: THE CARDS: each row of YtbbobffedgcbhaaDoorRows.lean that lists a variable, with what it lists TIED to the program's text (the seventh form; the later family's looks); each row that meets fmt, with fmt's text TOLD by the authors' own Lean function (tested against real Go, not proved from fmt's source: count such statements apart). THE CARD IS WHAT COUNTS. Prove the row's statement (the work); the ties are given (YtbbobffedgcbhaaDoorTie.lean); close each card by the builder's one call (the guide's Derived/Test/ToyasCard.lean, 'card_holds'). Laid BY PROGRAM, IN A SANDBOX (cutbox-door.mjs). By AI agents, Wed Nov 11 2026. No macro, syntax, notation, axiom, sorry.
-/
import Derived.Test.YtbbobffedgcbhaaDoorRows
import GoSem.ClaimSeven
namespace Go.Proofs.YtbbobffedgcbhaaDoor
namespace Rows

/-- THE TIED CARD OF 'turnkeylaw10.AuditKeeps'. -/
def auditKeepsCard : Claim7 := { stood := { row := auditKeepsRow, standIns := [], harness := (true, "1f3eced8f6abaa94e569ee0b778730c4958533ebfa5dbb511f460ae27958fe0c"), looks := true }, kinds := [], alts := [], laidByText := true, laidKinds := [.handle, .data, .data, .sentinel, .sentinel, .sentinel], laidTests := true, laidLooks := .later }
def AuditKeepsCardSaid : Prop := Claim7.holds Tryd.pinned (.plain (OpenSpec.ofChange auditKeepsSpec)) auditKeepsCard

/-- THE TIED CARD OF 'turnkeylaw10.AuditCuts'. -/
def auditCutsCard : Claim7 := { stood := { row := auditCutsRow, standIns := [], harness := (true, "1f3eced8f6abaa94e569ee0b778730c4958533ebfa5dbb511f460ae27958fe0c"), looks := true }, kinds := [], alts := [], laidByText := true, laidKinds := [.handle, .data, .data, .sentinel, .sentinel, .sentinel], laidTests := true, laidLooks := .later }
def AuditCutsCardSaid : Prop := Claim7.holds Tryd.pinned (.plain (OpenSpec.ofChange auditCutsSpec)) auditCutsCard

/-- THE SECOND FORM's CARD OF 'turnkeylaw10.AuditKeeps'. -/
def auditKeepsUptoCard : Claim7 := { stood := { row := auditKeepsUptoRow, standIns := [], harness := (true, "1f3eced8f6abaa94e569ee0b778730c4958533ebfa5dbb511f460ae27958fe0c"), looks := true }, kinds := [], alts := [], laidByText := true, laidKinds := [.handle, .data, .data, .sentinel, .sentinel, .sentinel], laidTests := true, laidLooks := .later }
def AuditKeepsUptoCardSaid : Prop := Claim7.holds Tryd.pinned (.plain (OpenSpec.upto auditKeepsSpec)) auditKeepsUptoCard

/-- THE SECOND FORM's CARD OF 'turnkeylaw10.AuditCuts'. -/
def auditCutsUptoCard : Claim7 := { stood := { row := auditCutsUptoRow, standIns := [], harness := (true, "1f3eced8f6abaa94e569ee0b778730c4958533ebfa5dbb511f460ae27958fe0c"), looks := true }, kinds := [], alts := [], laidByText := true, laidKinds := [.handle, .data, .data, .sentinel, .sentinel, .sentinel], laidTests := true, laidLooks := .later }
def AuditCutsUptoCardSaid : Prop := Claim7.holds Tryd.pinned (.plain (OpenSpec.upto auditCutsSpec)) auditCutsUptoCard
end Rows
end Go.Proofs.YtbbobffedgcbhaaDoor
