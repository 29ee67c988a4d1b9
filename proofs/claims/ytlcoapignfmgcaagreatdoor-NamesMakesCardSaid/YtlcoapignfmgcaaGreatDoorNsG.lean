/- How a node that came in is opened. -/
import Derived.Test.YtlcoapignfmgcaaGreatDoorNmFc
namespace Go.Proofs.YtlcoapignfmgcaaGreatDoor
open Go.ChangeShapes Go.WideShapes Go.ChangeAt Go.RowKit
open Go.Deep (open_slice)
set_option linter.unusedVariables false
set_option maxRecDepth 100000 in
theorem node_of {H : Type} {enc : TypeId × Value → H} {W : World} {base : Nat} {sp : Nat → Bool} {held : Bool} {v : Value} {d : DataW H} {p : List MemPlace}
    (hval : Value.okWide Tryz.prog W .any base 28 v) (h : DataW.Trod enc Tryz.prog W 0 sp held 28 v d p) :
    ∃ q : DV, v = .agg q.cs.toArray ∧ DVok W W.heap.size q ∧ q.dn ≤ q.dc := by
  obtain ⟨cells, rfl, _⟩ := okWide_struct Tryz.underlying28 hval
  obtain ⟨fuel, hf⟩ := h
  obtain ⟨q, hq, h1, h2⟩ := nd_of hf
  refine ⟨q, ?_, h1, h2⟩
  rw [← hq]
  rfl
end Go.Proofs.YtlcoapignfmgcaaGreatDoor
