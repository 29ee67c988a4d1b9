/-
  DERIVED. GIVEN WITH THE SEED: THE CARDS: each row of YthbackkcamgidaaGreatDoorRows.lean that lists a variable, with what it lists TIED to the program's text (the seventh form; the later family's looks); each row that meets fmt, with fmt's text TOLD by the authors' own Lean function (tested against real Go, not proved from fmt's source: count such statements apart). THE CARD IS WHAT COUNTS. Prove the row's statement (the work); the ties are given (YthbackkcamgidaaGreatDoorTie.lean); close each card by the builder's one call (the guide's Derived/Test/ToyasCard.lean, 'card_holds'). Laid BY PROGRAM, IN A SANDBOX (cutbox-door.mjs). By AI agents, Wed Nov 11 2026. No macro, syntax, notation, axiom, sorry.
-/
import Derived.Test.YthbackkcamgidaaGreatDoorRows
import GoSem.ClaimSeven
namespace Go.Proofs.YthbackkcamgidaaGreatDoor
namespace Rows

/-- THE TIED CARD OF 'turnkeylaw12.RulesParses'. -/
def rulesParsesCard : Claim7 := { stood := { row := rulesParsesRow, standIns := [], harness := (true, "b9602d38a02ca88cb78e2c88a5f5e13ceb08f5a524c6f37012fab9322d15540b"), looks := true }, kinds := [], alts := [], laidByText := true, laidKinds := [.data, .handle, .data, .pinned], laidTests := true, laidLooks := .later }
def RulesParsesCardSaid : Prop := Claim7.holds Tryz.pinned (.plain (OpenSpec.ofChange rulesParsesSpec)) rulesParsesCard

/-- THE TIED CARD OF 'turnkeylaw12.RulesChecks'. -/
def rulesChecksCard : Claim7 := { stood := { row := rulesChecksRow, standIns := [], harness := (true, "b9602d38a02ca88cb78e2c88a5f5e13ceb08f5a524c6f37012fab9322d15540b"), looks := true }, kinds := [], alts := [], laidByText := true, laidKinds := [.data, .handle, .data, .pinned], laidTests := true, laidLooks := .later }
def RulesChecksCardSaid : Prop := Claim7.holds Tryz.pinned (.plain (OpenSpec.ofChange rulesChecksSpec)) rulesChecksCard

/-- THE TIED CARD OF 'turnkeylaw12.RulesBack'. -/
def rulesBackCard : Claim7 := { stood := { row := rulesBackRow, standIns := [], harness := (true, "b9602d38a02ca88cb78e2c88a5f5e13ceb08f5a524c6f37012fab9322d15540b"), looks := true }, kinds := [], alts := [], laidByText := true, laidKinds := [.data, .handle, .data, .pinned], laidTests := true, laidLooks := .later }
def RulesBackCardSaid : Prop := Claim7.holds Tryz.pinned (.plain (OpenSpec.ofChange rulesBackSpec)) rulesBackCard

/-- THE TIED CARD OF 'turnkeylaw12.RulesOne'. -/
def rulesOneCard : Claim7 := { stood := { row := rulesOneRow, standIns := [], harness := (true, "b9602d38a02ca88cb78e2c88a5f5e13ceb08f5a524c6f37012fab9322d15540b"), looks := true }, kinds := [], alts := [], laidByText := true, laidKinds := [.data, .handle, .data, .pinned], laidTests := true, laidLooks := .later }
def RulesOneCardSaid : Prop := Claim7.holds Tryz.pinned (.plain (OpenSpec.ofChange rulesOneSpec)) rulesOneCard

/-- THE TIED CARD OF 'turnkeylaw12.RulesRemarks'. -/
def rulesRemarksCard : Claim7 := { stood := { row := rulesRemarksRow, standIns := [], harness := (true, "b9602d38a02ca88cb78e2c88a5f5e13ceb08f5a524c6f37012fab9322d15540b"), looks := true }, kinds := [], alts := [], laidByText := true, laidKinds := [.data, .handle, .data, .pinned], laidTests := true, laidLooks := .later }
def RulesRemarksCardSaid : Prop := Claim7.holds Tryz.pinned (.plain (OpenSpec.ofChange rulesRemarksSpec)) rulesRemarksCard

/-- THE SECOND FORM's CARD OF 'turnkeylaw12.RulesParses'. -/
def rulesParsesUptoCard : Claim7 := { stood := { row := rulesParsesUptoRow, standIns := [], harness := (true, "b9602d38a02ca88cb78e2c88a5f5e13ceb08f5a524c6f37012fab9322d15540b"), looks := true }, kinds := [], alts := [], laidByText := true, laidKinds := [.data, .handle, .data, .pinned], laidTests := true, laidLooks := .later }
def RulesParsesUptoCardSaid : Prop := Claim7.holds Tryz.pinned (.plain (OpenSpec.upto rulesParsesSpec)) rulesParsesUptoCard

/-- THE SECOND FORM's CARD OF 'turnkeylaw12.RulesChecks'. -/
def rulesChecksUptoCard : Claim7 := { stood := { row := rulesChecksUptoRow, standIns := [], harness := (true, "b9602d38a02ca88cb78e2c88a5f5e13ceb08f5a524c6f37012fab9322d15540b"), looks := true }, kinds := [], alts := [], laidByText := true, laidKinds := [.data, .handle, .data, .pinned], laidTests := true, laidLooks := .later }
def RulesChecksUptoCardSaid : Prop := Claim7.holds Tryz.pinned (.plain (OpenSpec.upto rulesChecksSpec)) rulesChecksUptoCard

/-- THE SECOND FORM's CARD OF 'turnkeylaw12.RulesBack'. -/
def rulesBackUptoCard : Claim7 := { stood := { row := rulesBackUptoRow, standIns := [], harness := (true, "b9602d38a02ca88cb78e2c88a5f5e13ceb08f5a524c6f37012fab9322d15540b"), looks := true }, kinds := [], alts := [], laidByText := true, laidKinds := [.data, .handle, .data, .pinned], laidTests := true, laidLooks := .later }
def RulesBackUptoCardSaid : Prop := Claim7.holds Tryz.pinned (.plain (OpenSpec.upto rulesBackSpec)) rulesBackUptoCard

/-- THE SECOND FORM's CARD OF 'turnkeylaw12.RulesOne'. -/
def rulesOneUptoCard : Claim7 := { stood := { row := rulesOneUptoRow, standIns := [], harness := (true, "b9602d38a02ca88cb78e2c88a5f5e13ceb08f5a524c6f37012fab9322d15540b"), looks := true }, kinds := [], alts := [], laidByText := true, laidKinds := [.data, .handle, .data, .pinned], laidTests := true, laidLooks := .later }
def RulesOneUptoCardSaid : Prop := Claim7.holds Tryz.pinned (.plain (OpenSpec.upto rulesOneSpec)) rulesOneUptoCard

/-- THE SECOND FORM's CARD OF 'turnkeylaw12.RulesRemarks'. -/
def rulesRemarksUptoCard : Claim7 := { stood := { row := rulesRemarksUptoRow, standIns := [], harness := (true, "b9602d38a02ca88cb78e2c88a5f5e13ceb08f5a524c6f37012fab9322d15540b"), looks := true }, kinds := [], alts := [], laidByText := true, laidKinds := [.data, .handle, .data, .pinned], laidTests := true, laidLooks := .later }
def RulesRemarksUptoCardSaid : Prop := Claim7.holds Tryz.pinned (.plain (OpenSpec.upto rulesRemarksSpec)) rulesRemarksUptoCard
end Rows
end Go.Proofs.YthbackkcamgidaaGreatDoor
