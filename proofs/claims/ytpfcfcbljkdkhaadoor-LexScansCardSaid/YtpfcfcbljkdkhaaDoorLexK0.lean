/- An element of a row of tokens. -/
import Derived.Test.YtpfcfcbljkdkhaaDoorLexJ
namespace Go.Proofs.YtpfcfcbljkdkhaaDoor
open Go.RowKit
set_option linter.unusedVariables false
theorem run_sizeOf_n {P : Program} {e : TypeId} {n : Nat} (hs : (P.info? e).map (·.size) = some n) (W : World) : (sizeOf e).run P W = .ok n W := by
  obtain ⟨i, hi, h1⟩ := Option.map_eq_some_iff.1 hs
  simp [sizeOf, typeInfo, hi, h1]
theorem tok_at (g1 m k q : Nat) (i : Int) (hi : i = (q : Int)) (hq : q < m) (W : World) : (Instr.indexAt 23 (.slice (some ⟨g1, 0, none⟩) m k) (.int .i64 i)).run Tryd.prog W = .ok (.pointer (some ⟨g1, q * 5, none⟩)) W := by
  subst hi
  have hE : Tryd.prog.elem 23 = 37 := by simp [Program.elem, Tryd.underlying23]
  rw [run_indexAt_slice W 23 ⟨g1, 0, none⟩ m k .i64 (q : Int) (slice_ht Tryd.underlying23), if_pos ⟨by omega, by omega⟩]
  rw [hE, run_sizeOf_n sizeTok W]
  simp only [Result.andThen, Int.toNat_natCast, at_add, Nat.zero_add]
end Go.Proofs.YtpfcfcbljkdkhaaDoor
