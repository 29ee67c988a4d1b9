/- FieldKeeps at a text as it comes in. -/
import Derived.Test.YtnongbbhpkmdjaaFldLawK
namespace Go.Proofs.Ytnongbbhpkmdjaa
open Go.RowKit
theorem keeps_b (l : List Pc) (A : Option Addr) (n c : Nat) (s : ByteArray) (w : World) (hR : RdP w A n l) : Calls Try.prog 5 #[.slice A n c, .string s] w fun e w' => e = .returned (.bool true) ∧ Below w.heap.size w w' := by
  obtain ⟨t, rfl⟩ := bs_of s
  exact keeps_any l t A n c w hR
end Go.Proofs.Ytnongbbhpkmdjaa
