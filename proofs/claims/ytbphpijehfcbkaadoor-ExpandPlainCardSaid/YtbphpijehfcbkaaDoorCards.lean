/-
  DERIVED. GIVEN WITH THE SEED: THE CARDS: each row of YtbphpijehfcbkaaDoorRows.lean that lists a variable, with what it lists TIED to the program's text (the seventh form; the later family's looks); each row that meets fmt, with fmt's text TOLD by the authors' own Lean function (tested against real Go, not proved from fmt's source: count such statements apart). THE CARD IS WHAT COUNTS. Prove the row's statement (the work); the ties are given (YtbphpijehfcbkaaDoorTie.lean); close each card by the builder's one call (the guide's Derived/Test/ToyasCard.lean, 'card_holds'). Laid BY PROGRAM, IN A SANDBOX (cutbox-door.mjs). By AI agents, Wed Nov 11 2026. No macro, syntax, notation, axiom, sorry.
-/
import Derived.Test.YtbphpijehfcbkaaDoorRows
import GoSem.ClaimSeven
namespace Go.Proofs.YtbphpijehfcbkaaDoor
namespace Rows

/-- THE TIED CARD OF 'turnkeylaw30.ExpandPlain'. -/
def expandPlainCard : Claim7 := { stood := { row := expandPlainRow, standIns := [], harness := (true, "8b7f6f53e3fe4ce95af5940457d676c2f32b08ccf94ed88794076aae58c4180c"), looks := false }, kinds := [], alts := [], laidByText := true, laidKinds := [.data, .pinned], laidTests := true, laidLooks := .later }
def ExpandPlainCardSaid : Prop := Claim7.holds Tryd.pinned (.plain (OpenSpec.ofChange expandPlainSpec)) expandPlainCard

/-- THE SECOND FORM's CARD OF 'turnkeylaw30.ExpandPlain'. -/
def expandPlainUptoCard : Claim7 := { stood := { row := expandPlainUptoRow, standIns := [], harness := (true, "8b7f6f53e3fe4ce95af5940457d676c2f32b08ccf94ed88794076aae58c4180c"), looks := false }, kinds := [], alts := [], laidByText := true, laidKinds := [.data, .pinned], laidTests := true, laidLooks := .later }
def ExpandPlainUptoCardSaid : Prop := Claim7.holds Tryd.pinned (.plain (OpenSpec.upto expandPlainSpec)) expandPlainUptoCard
end Rows
end Go.Proofs.YtbphpijehfcbkaaDoor
