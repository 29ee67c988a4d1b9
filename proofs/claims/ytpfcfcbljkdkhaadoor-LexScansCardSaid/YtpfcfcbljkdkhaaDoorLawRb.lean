/- The law LexRises at every text. -/
import Derived.Test.YtpfcfcbljkdkhaaDoorLawR
namespace Go.Proofs.YtpfcfcbljkdkhaaDoor
open Go.RowKit
set_option linter.unusedVariables false
theorem Std.pos {w : World} (h : Std w) : 0 < w.heap.size := World.block_lt_of_cell? w ⟨0, 0, none⟩ (h 0 (by omega))
theorem rises_b (s : ByteArray) (w : World) (hs : Std w) : Calls Tryd.prog 4 #[.string s] w fun e w' => e = .returned (.bool true) ∧ Below w.heap.size w w' := by
  obtain ⟨l, rfl⟩ := bs_of s
  exact rises_law l w hs hs.pos
end Go.Proofs.YtpfcfcbljkdkhaaDoor
