/- How a pipe that came in is opened. -/
import Derived.Test.YtpbhkceinnganaaFinN
import Derived.Test.YtpbhkceinnganaaPipeA
namespace Go.Proofs.Ytpbhkceinnganaa
open Go.ChangeShapes Go.WideShapes Go.ChangeAt Go.RowKit Go.Joins
set_option linter.unusedVariables false

theorem pipe_of {H : Type} {enc : TypeId × Value → H} {W : World} {base : Nat} {sp : Nat → Bool} {held : Bool} {v : Value} {d : DataW H} {p : List MemPlace}
    (hval : Value.okWide Try.prog W .any base 24 v) (h : DataW.Trod enc Try.prog W 0 sp held 24 v d p) :
    ∃ A n c r u bs, v = pv A n c r u ∧ Rd W A n bs ∧ n ≤ c ∧ c ≤ maxLen ∧ (Lit.int .i64 r).wf = true ∧ (Lit.int .i64 u).wf = true := by
  obtain ⟨v0, v1, v2, y0, y1, y2, m, rfl, rfl, rfl, h0, h1, h2⟩ := open_agg3 Try.underlying24 (by kernel_rfl) (by kernel_rfl) hval h
  obtain ⟨r, e1, _, wr⟩ := DataW.trod_int Try.underlying3 h1
  obtain ⟨u, e2, _, wu⟩ := DataW.trod_int Try.underlying3 h2
  injection e1 with e1
  injection e2 with e2
  subst e1; subst e2
  obtain ⟨A, n, c, bs, rfl, hr, hl, hm⟩ := bytes_of_trod Try.underlying22 Try.underlying5 (by kernel_rfl) h0
  exact ⟨A, n, c, r, u, bs, rfl, hr, hl, hm, wr, wu⟩
end Go.Proofs.Ytpbhkceinnganaa
