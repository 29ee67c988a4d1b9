/- The law NodeTells at a text as it comes in. -/
import Derived.Test.YtnhfpaobocbieaaNdLt
namespace Go.Proofs.Ytnhfpaobocbieaa
open Go.RowKit
theorem tells_b (L : Option Addr) (n c : Nat) (l : List DV) (m : Int) (s : ByteArray) (w : World) (hF : FsR w w.heap.size L n l) (hn : n ≤ maxLen) :
    Calls Try.prog 3 #[.agg #[.slice L n c], .int .i64 m, .string s] w fun e w' => e = .returned (.bool true) ∧ Below w.heap.size w w' := by
  obtain ⟨k, rfl⟩ := bs_of s
  exact lawtells_any L n c l m k w hF hn
end Go.Proofs.Ytnhfpaobocbieaa
