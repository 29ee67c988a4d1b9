/- How a stream that came in is opened. -/
import Derived.Test.YtgmpcgcmcheelaaFinN
import Derived.Test.YtgmpcgcmcheelaaFrameC
namespace Go.Proofs.Ytgmpcgcmcheelaa
open Go.ChangeShapes Go.WideShapes Go.ChangeAt Go.RowKit Go.Joins
set_option linter.unusedVariables false

theorem stream_of {H : Type} {enc : TypeId × Value → H} {W : World} {base : Nat} {sp : Nat → Bool} {held : Bool} {v : Value} {d : DataW H} {p : List MemPlace}
    (hval : Value.okWide Try.prog W .any base 24 v) (h : DataW.Trod enc Try.prog W 0 sp held 24 v d p) :
    ∃ A n c dead s, v = stV A n c dead ∧ Rd W A n s ∧ n ≤ c ∧ c ≤ maxLen := by
  obtain ⟨cells, rfl, hsize⟩ := okWide_struct Try.underlying24 hval
  have h5 : cells.size = 2 := hsize.trans (by kernel_rfl)
  obtain ⟨fuel, hf⟩ := h
  obtain ⟨xs, m, _, _, _, hxs, hat⟩ := DataW.trod_struct Try.underlying24 hf
  match cells, h5 with
  | ⟨[v0, v1]⟩, _ =>
    match xs, hxs with
    | [y0, y1], _ =>
      have f0 := hat 0 _ rfl
      have f1 := hat 1 _ rfl
      have c22 : Try.prog.cellsOf 22 = 1 := by kernel_rfl
      have c4 : Try.prog.cellsOf 4 = 1 := by kernel_rfl
      simp [Value.cells, c22, c4] at f0 f1
      obtain ⟨b, e3, _⟩ := DataW.trod_bool Try.underlying4 f1
      injection e3 with e3
      subst e3
      obtain ⟨A, n, c, s, rfl, hr, hl, hm⟩ := bytes_of_trod Try.underlying22 Try.underlying5 (by kernel_rfl) f0
      exact ⟨A, n, c, b, s, rfl, hr, hl, hm⟩
end Go.Proofs.Ytgmpcgcmcheelaa
