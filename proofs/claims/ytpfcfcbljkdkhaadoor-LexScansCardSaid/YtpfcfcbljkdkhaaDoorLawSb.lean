/- The law LexScans at every text. -/
import Derived.Test.YtpfcfcbljkdkhaaDoorLawS
import Derived.Test.YtpfcfcbljkdkhaaDoorLawRb
namespace Go.Proofs.YtpfcfcbljkdkhaaDoor
open Go.RowKit
set_option linter.unusedVariables false
theorem scans_b (s : ByteArray) (z : Int) (w : World) (hs : Std w) : Calls Tryd.prog 3 #[.string s, .int .i64 z] w fun e w' => e = .returned (.bool true) ∧ Below w.heap.size w w' := by
  obtain ⟨l, rfl⟩ := bs_of s
  exact scans_law l z w hs hs.pos
end Go.Proofs.YtpfcfcbljkdkhaaDoor
