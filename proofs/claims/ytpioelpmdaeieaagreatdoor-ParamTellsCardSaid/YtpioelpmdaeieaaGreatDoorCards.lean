/-
  DERIVED. GIVEN WITH THE SEED: THE CARDS: each row of YtpioelpmdaeieaaGreatDoorRows.lean that lists a variable, with what it lists TIED to the program's text (the seventh form; the later family's looks); each row that meets fmt, with fmt's text TOLD by the authors' own Lean function (tested against real Go, not proved from fmt's source: count such statements apart). THE CARD IS WHAT COUNTS. Prove the row's statement (the work); the ties are given (YtpioelpmdaeieaaGreatDoorTie.lean); close each card by the builder's one call (the guide's Derived/Test/ToyasCard.lean, 'card_holds'). Laid BY PROGRAM, IN A SANDBOX (cutbox-door.mjs). By AI agents, Wed Nov 11 2026. No macro, syntax, notation, axiom, sorry.
-/
import Derived.Test.YtpioelpmdaeieaaGreatDoorRows
import GoSem.ClaimSeven
namespace Go.Proofs.YtpioelpmdaeieaaGreatDoor
namespace Rows

/-- THE TIED CARD OF 'turnkeylaw28.ParamTells'. -/
def paramTellsCard : Claim7 := { stood := { row := paramTellsRow, standIns := [], harness := (true, "917921938707e24f389e9f74d840be03e3a5a5dea91fadf401ff4b058140fd46"), looks := false }, kinds := [], alts := [], laidByText := true, laidKinds := [.data, .data, .data], laidTests := true, laidLooks := .later }
def ParamTellsCardSaid : Prop := Claim7.holds Tryz.pinned (.plain (OpenSpec.ofChange paramTellsSpec)) paramTellsCard

/-- THE TIED CARD OF 'turnkeylaw28.ParamSets'. -/
def paramSetsCard : Claim7 := { stood := { row := paramSetsRow, standIns := [], harness := (true, "917921938707e24f389e9f74d840be03e3a5a5dea91fadf401ff4b058140fd46"), looks := false }, kinds := [], alts := [], laidByText := true, laidKinds := [.data, .data, .data], laidTests := true, laidLooks := .later }
def ParamSetsCardSaid : Prop := Claim7.holds Tryz.pinned (.plain (OpenSpec.ofChange paramSetsSpec)) paramSetsCard

/-- THE TIED CARD OF 'turnkeylaw28.ParamExports'. -/
def paramExportsCard : Claim7 := { stood := { row := paramExportsRow, standIns := [], harness := (true, "917921938707e24f389e9f74d840be03e3a5a5dea91fadf401ff4b058140fd46"), looks := false }, kinds := [], alts := [], laidByText := true, laidKinds := [.data, .data, .data], laidTests := true, laidLooks := .later }
def ParamExportsCardSaid : Prop := Claim7.holds Tryz.pinned (.plain (OpenSpec.ofChange paramExportsSpec)) paramExportsCard

/-- THE TIED CARD OF 'turnkeylaw28.ParamCuts'. -/
def paramCutsCard : Claim7 := { stood := { row := paramCutsRow, standIns := [], harness := (true, "917921938707e24f389e9f74d840be03e3a5a5dea91fadf401ff4b058140fd46"), looks := false }, kinds := [], alts := [], laidByText := true, laidKinds := [.data, .data, .data], laidTests := true, laidLooks := .later }
def ParamCutsCardSaid : Prop := Claim7.holds Tryz.pinned (.plain (OpenSpec.ofChange paramCutsSpec)) paramCutsCard

/-- THE SECOND FORM's CARD OF 'turnkeylaw28.ParamTells'. -/
def paramTellsUptoCard : Claim7 := { stood := { row := paramTellsUptoRow, standIns := [], harness := (true, "917921938707e24f389e9f74d840be03e3a5a5dea91fadf401ff4b058140fd46"), looks := false }, kinds := [], alts := [], laidByText := true, laidKinds := [.data, .data, .data], laidTests := true, laidLooks := .later }
def ParamTellsUptoCardSaid : Prop := Claim7.holds Tryz.pinned (.plain (OpenSpec.upto paramTellsSpec)) paramTellsUptoCard

/-- THE SECOND FORM's CARD OF 'turnkeylaw28.ParamSets'. -/
def paramSetsUptoCard : Claim7 := { stood := { row := paramSetsUptoRow, standIns := [], harness := (true, "917921938707e24f389e9f74d840be03e3a5a5dea91fadf401ff4b058140fd46"), looks := false }, kinds := [], alts := [], laidByText := true, laidKinds := [.data, .data, .data], laidTests := true, laidLooks := .later }
def ParamSetsUptoCardSaid : Prop := Claim7.holds Tryz.pinned (.plain (OpenSpec.upto paramSetsSpec)) paramSetsUptoCard

/-- THE SECOND FORM's CARD OF 'turnkeylaw28.ParamExports'. -/
def paramExportsUptoCard : Claim7 := { stood := { row := paramExportsUptoRow, standIns := [], harness := (true, "917921938707e24f389e9f74d840be03e3a5a5dea91fadf401ff4b058140fd46"), looks := false }, kinds := [], alts := [], laidByText := true, laidKinds := [.data, .data, .data], laidTests := true, laidLooks := .later }
def ParamExportsUptoCardSaid : Prop := Claim7.holds Tryz.pinned (.plain (OpenSpec.upto paramExportsSpec)) paramExportsUptoCard

/-- THE SECOND FORM's CARD OF 'turnkeylaw28.ParamCuts'. -/
def paramCutsUptoCard : Claim7 := { stood := { row := paramCutsUptoRow, standIns := [], harness := (true, "917921938707e24f389e9f74d840be03e3a5a5dea91fadf401ff4b058140fd46"), looks := false }, kinds := [], alts := [], laidByText := true, laidKinds := [.data, .data, .data], laidTests := true, laidLooks := .later }
def ParamCutsUptoCardSaid : Prop := Claim7.holds Tryz.pinned (.plain (OpenSpec.upto paramCutsSpec)) paramCutsUptoCard
end Rows
end Go.Proofs.YtpioelpmdaeieaaGreatDoor
