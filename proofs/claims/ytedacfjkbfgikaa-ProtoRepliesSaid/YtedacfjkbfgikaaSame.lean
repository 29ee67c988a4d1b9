/- The contract of the reference's Same. -/
import Derived.Test.YtedacfjkbfgikaaBase
namespace Go.Proofs.Ytedacfjkbfgikaa
open Go.RowKit
set_option linter.unusedVariables false

set_option maxHeartbeats 400000 in
theorem same_any (A B : Option Addr) (n m c d : Nat) (a b : List UInt8) (w : World) (X Y : Nat) (ha : Reads w X 1 A n (bv a)) (hb : Reads w Y 1 B m (bv b)) :
    Calls Try.prog 13 #[.slice A n c, .slice B m d] w fun e w' => e = .returned (.bool (a == b)) ∧ w = w' := by
  have r1 := run_string_of (P := Try.prog) w X 22 9 5 A n c a Try.underlying22 Try.underlying5 Try.underlying9 ha
  have r2 := run_string_of (P := Try.prog) w Y 22 9 5 B m d b Try.underlying22 Try.underlying5 Try.underlying9 hb
  go_enter Try.func13, Try.ntmps13
  go_wp2
  go_ret
  exact ⟨rfl, rfl⟩
end Go.Proofs.Ytedacfjkbfgikaa
