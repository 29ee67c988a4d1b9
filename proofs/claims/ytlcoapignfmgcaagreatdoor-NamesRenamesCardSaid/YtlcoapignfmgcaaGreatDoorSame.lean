/- The contract of the reference's Same. -/
import Derived.Test.YtlcoapignfmgcaaGreatDoorGa
namespace Go.Proofs.YtlcoapignfmgcaaGreatDoor
open Go.RowKit
set_option linter.unusedVariables false

set_option maxHeartbeats 400000 in
theorem same_any (A B : Option Addr) (n m c d : Nat) (a b : List UInt8) (w : World) (X Y : Nat) (ha : Reads w X 1 A n (bv a)) (hb : Reads w Y 1 B m (bv b)) :
    Calls Tryz.prog 24 #[.slice A n c, .slice B m d] w fun e w' => e = .returned (.bool (a == b)) ∧ w = w' := by
  have r1 := run_string_of (P := Tryz.prog) w X 25 9 5 A n c a Tryz.underlying25 Tryz.underlying5 Tryz.underlying9 ha
  have r2 := run_string_of (P := Tryz.prog) w Y 25 9 5 B m d b Tryz.underlying25 Tryz.underlying5 Tryz.underlying9 hb
  go_enter Tryz.func24, Tryz.ntmps24
  go_wp2
  go_ret
  exact ⟨rfl, rfl⟩
end Go.Proofs.YtlcoapignfmgcaaGreatDoor
