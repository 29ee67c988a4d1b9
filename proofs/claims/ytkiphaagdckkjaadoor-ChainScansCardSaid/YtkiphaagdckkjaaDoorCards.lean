/-
  DERIVED. GIVEN WITH THE SEED: THE CARDS: each row of YtkiphaagdckkjaaDoorRows.lean that lists a variable, with what it lists TIED to the program's text (the seventh form; the later family's looks); each row that meets fmt, with fmt's text TOLD by the authors' own Lean function (tested against real Go, not proved from fmt's source: count such statements apart). THE CARD IS WHAT COUNTS. Prove the row's statement (the work); the ties are given (YtkiphaagdckkjaaDoorTie.lean); close each card by the builder's one call (the guide's Derived/Test/ToyasCard.lean, 'card_holds'). Laid BY PROGRAM, IN A SANDBOX (cutbox-door.mjs). By AI agents, Wed Nov 11 2026. No macro, syntax, notation, axiom, sorry.
-/
import Derived.Test.YtkiphaagdckkjaaDoorRows
import GoSem.ClaimSeven
namespace Go.Proofs.YtkiphaagdckkjaaDoor
namespace Rows

/-- THE TIED CARD OF 'turnkeylaw08.ChainLinks'. -/
def chainLinksCard : Claim7 := { stood := { row := chainLinksRow, standIns := [], harness := (true, "0e77f5877888a23ce44f46d87fd1a56bbf4ae63d5eb8d14987f0ef8bba7b577a"), looks := true }, kinds := [], alts := [], laidByText := true, laidKinds := [.handle, .data, .data], laidTests := true, laidLooks := .later }
def ChainLinksCardSaid : Prop := Claim7.holds Tryd.pinned (.plain (OpenSpec.ofChange chainLinksSpec)) chainLinksCard

/-- THE TIED CARD OF 'turnkeylaw08.ChainScans'. -/
def chainScansCard : Claim7 := { stood := { row := chainScansRow, standIns := [], harness := (true, "0e77f5877888a23ce44f46d87fd1a56bbf4ae63d5eb8d14987f0ef8bba7b577a"), looks := true }, kinds := [], alts := [], laidByText := true, laidKinds := [.handle, .data, .data], laidTests := true, laidLooks := .later }
def ChainScansCardSaid : Prop := Claim7.holds Tryd.pinned (.plain (OpenSpec.ofChange chainScansSpec)) chainScansCard

/-- THE TIED CARD OF 'turnkeylaw08.ChainBack'. -/
def chainBackCard : Claim7 := { stood := { row := chainBackRow, standIns := [], harness := (true, "0e77f5877888a23ce44f46d87fd1a56bbf4ae63d5eb8d14987f0ef8bba7b577a"), looks := true }, kinds := [], alts := [], laidByText := true, laidKinds := [.handle, .data, .data], laidTests := true, laidLooks := .later }
def ChainBackCardSaid : Prop := Claim7.holds Tryd.pinned (.plain (OpenSpec.ofChange chainBackSpec)) chainBackCard

/-- THE TIED CARD OF 'turnkeylaw08.ChainCuts'. -/
def chainCutsCard : Claim7 := { stood := { row := chainCutsRow, standIns := [], harness := (true, "0e77f5877888a23ce44f46d87fd1a56bbf4ae63d5eb8d14987f0ef8bba7b577a"), looks := true }, kinds := [], alts := [], laidByText := true, laidKinds := [.handle, .data, .data], laidTests := true, laidLooks := .later }
def ChainCutsCardSaid : Prop := Claim7.holds Tryd.pinned (.plain (OpenSpec.ofChange chainCutsSpec)) chainCutsCard

/-- THE TIED CARD OF 'turnkeylaw08.ChainGoes'. -/
def chainGoesCard : Claim7 := { stood := { row := chainGoesRow, standIns := [], harness := (true, "0e77f5877888a23ce44f46d87fd1a56bbf4ae63d5eb8d14987f0ef8bba7b577a"), looks := true }, kinds := [], alts := [], laidByText := true, laidKinds := [.handle, .data, .data], laidTests := true, laidLooks := .later }
def ChainGoesCardSaid : Prop := Claim7.holds Tryd.pinned (.plain (OpenSpec.ofChange chainGoesSpec)) chainGoesCard

/-- THE SECOND FORM's CARD OF 'turnkeylaw08.ChainLinks'. -/
def chainLinksUptoCard : Claim7 := { stood := { row := chainLinksUptoRow, standIns := [], harness := (true, "0e77f5877888a23ce44f46d87fd1a56bbf4ae63d5eb8d14987f0ef8bba7b577a"), looks := true }, kinds := [], alts := [], laidByText := true, laidKinds := [.handle, .data, .data], laidTests := true, laidLooks := .later }
def ChainLinksUptoCardSaid : Prop := Claim7.holds Tryd.pinned (.plain (OpenSpec.upto chainLinksSpec)) chainLinksUptoCard

/-- THE SECOND FORM's CARD OF 'turnkeylaw08.ChainScans'. -/
def chainScansUptoCard : Claim7 := { stood := { row := chainScansUptoRow, standIns := [], harness := (true, "0e77f5877888a23ce44f46d87fd1a56bbf4ae63d5eb8d14987f0ef8bba7b577a"), looks := true }, kinds := [], alts := [], laidByText := true, laidKinds := [.handle, .data, .data], laidTests := true, laidLooks := .later }
def ChainScansUptoCardSaid : Prop := Claim7.holds Tryd.pinned (.plain (OpenSpec.upto chainScansSpec)) chainScansUptoCard

/-- THE SECOND FORM's CARD OF 'turnkeylaw08.ChainBack'. -/
def chainBackUptoCard : Claim7 := { stood := { row := chainBackUptoRow, standIns := [], harness := (true, "0e77f5877888a23ce44f46d87fd1a56bbf4ae63d5eb8d14987f0ef8bba7b577a"), looks := true }, kinds := [], alts := [], laidByText := true, laidKinds := [.handle, .data, .data], laidTests := true, laidLooks := .later }
def ChainBackUptoCardSaid : Prop := Claim7.holds Tryd.pinned (.plain (OpenSpec.upto chainBackSpec)) chainBackUptoCard

/-- THE SECOND FORM's CARD OF 'turnkeylaw08.ChainCuts'. -/
def chainCutsUptoCard : Claim7 := { stood := { row := chainCutsUptoRow, standIns := [], harness := (true, "0e77f5877888a23ce44f46d87fd1a56bbf4ae63d5eb8d14987f0ef8bba7b577a"), looks := true }, kinds := [], alts := [], laidByText := true, laidKinds := [.handle, .data, .data], laidTests := true, laidLooks := .later }
def ChainCutsUptoCardSaid : Prop := Claim7.holds Tryd.pinned (.plain (OpenSpec.upto chainCutsSpec)) chainCutsUptoCard

/-- THE SECOND FORM's CARD OF 'turnkeylaw08.ChainGoes'. -/
def chainGoesUptoCard : Claim7 := { stood := { row := chainGoesUptoRow, standIns := [], harness := (true, "0e77f5877888a23ce44f46d87fd1a56bbf4ae63d5eb8d14987f0ef8bba7b577a"), looks := true }, kinds := [], alts := [], laidByText := true, laidKinds := [.handle, .data, .data], laidTests := true, laidLooks := .later }
def ChainGoesUptoCardSaid : Prop := Claim7.holds Tryd.pinned (.plain (OpenSpec.upto chainGoesSpec)) chainGoesUptoCard
end Rows
end Go.Proofs.YtkiphaagdckkjaaDoor
