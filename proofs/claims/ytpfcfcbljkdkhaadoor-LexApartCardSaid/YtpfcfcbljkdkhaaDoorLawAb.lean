/- The law LexApart at every text. -/
import Derived.Test.YtpfcfcbljkdkhaaDoorLawA
import Derived.Test.YtpfcfcbljkdkhaaDoorLawRb
namespace Go.Proofs.YtpfcfcbljkdkhaaDoor
open Go.RowKit
set_option linter.unusedVariables false
theorem apart_b (s : ByteArray) (w : World) (hs : Std w) : Calls Tryd.prog 5 #[.string s] w fun e w' => e = .returned (.bool true) ∧ Below w.heap.size w w' := by
  obtain ⟨l, rfl⟩ := bs_of s
  exact apart_law l w hs hs.pos
end Go.Proofs.YtpfcfcbljkdkhaaDoor
