/-
  DERIVED. GIVEN WITH THE SEED: THE CARDS: each row of YtlcoapignfmgcaaDoorRows.lean that lists a variable, with what it lists TIED to the program's text (the seventh form; the later family's looks); each row that meets fmt, with fmt's text TOLD by the authors' own Lean function (tested against real Go, not proved from fmt's source: count such statements apart). THE CARD IS WHAT COUNTS. Prove the row's statement (the work); the ties are given (YtlcoapignfmgcaaDoorTie.lean); close each card by the builder's one call (the guide's Derived/Test/ToyasCard.lean, 'card_holds'). Laid BY PROGRAM, IN A SANDBOX (cutbox-door.mjs). By AI agents, Wed Nov 11 2026. No macro, syntax, notation, axiom, sorry.
-/
import Derived.Test.YtlcoapignfmgcaaDoorRows
import GoSem.ClaimSeven
namespace Go.Proofs.YtlcoapignfmgcaaDoor
namespace Rows

/-- THE TIED CARD OF 'turnkeylaw15.NamesKeeps'. -/
def namesKeepsCard : Claim7 := { stood := { row := namesKeepsRow, standIns := [], harness := (true, "5b3033b774c00b06ee213b438c1c2474162b43d397bf440d5f346b1c957c78b8"), looks := false }, kinds := [], alts := [], laidByText := true, laidKinds := [.data, .pinned], laidTests := true, laidLooks := .later }
def NamesKeepsCardSaid : Prop := Claim7.holds Tryd.pinned (.plain (OpenSpec.ofChange namesKeepsSpec)) namesKeepsCard

/-- THE TIED CARD OF 'turnkeylaw15.NamesRead'. -/
def namesReadCard : Claim7 := { stood := { row := namesReadRow, standIns := [], harness := (true, "5b3033b774c00b06ee213b438c1c2474162b43d397bf440d5f346b1c957c78b8"), looks := false }, kinds := [], alts := [], laidByText := true, laidKinds := [.data, .pinned], laidTests := true, laidLooks := .later }
def NamesReadCardSaid : Prop := Claim7.holds Tryd.pinned (.plain (OpenSpec.ofChange namesReadSpec)) namesReadCard

/-- THE SECOND FORM's CARD OF 'turnkeylaw15.NamesKeeps'. -/
def namesKeepsUptoCard : Claim7 := { stood := { row := namesKeepsUptoRow, standIns := [], harness := (true, "5b3033b774c00b06ee213b438c1c2474162b43d397bf440d5f346b1c957c78b8"), looks := false }, kinds := [], alts := [], laidByText := true, laidKinds := [.data, .pinned], laidTests := true, laidLooks := .later }
def NamesKeepsUptoCardSaid : Prop := Claim7.holds Tryd.pinned (.plain (OpenSpec.upto namesKeepsSpec)) namesKeepsUptoCard

/-- THE SECOND FORM's CARD OF 'turnkeylaw15.NamesRead'. -/
def namesReadUptoCard : Claim7 := { stood := { row := namesReadUptoRow, standIns := [], harness := (true, "5b3033b774c00b06ee213b438c1c2474162b43d397bf440d5f346b1c957c78b8"), looks := false }, kinds := [], alts := [], laidByText := true, laidKinds := [.data, .pinned], laidTests := true, laidLooks := .later }
def NamesReadUptoCardSaid : Prop := Claim7.holds Tryd.pinned (.plain (OpenSpec.upto namesReadSpec)) namesReadUptoCard
end Rows
end Go.Proofs.YtlcoapignfmgcaaDoor
