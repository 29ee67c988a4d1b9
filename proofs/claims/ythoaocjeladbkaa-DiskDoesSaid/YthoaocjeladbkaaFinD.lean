/- How a disk that came in is opened. -/
import Derived.Test.YthoaocjeladbkaaFinN
import Derived.Test.YthoaocjeladbkaaDiskA
namespace Go.Proofs.Ythoaocjeladbkaa
open Go.ChangeShapes Go.WideShapes Go.ChangeAt Go.RowKit Go.Joins
set_option linter.unusedVariables false

theorem disk_of {H : Type} {enc : TypeId × Value → H} {W : World} {base : Nat} {sp : Nat → Bool} {held : Bool} {v : Value} {d : DataW H} {p : List MemPlace}
    (hval : Value.okWide Try.prog W .any base 24 v) (h : DataW.Trod enc Try.prog W 0 sp held 24 v d p) :
    ∃ A n c B m k room dead arm s q, v = dv A n c B m k room dead arm ∧ Rd W A n s ∧ n ≤ c ∧ c ≤ maxLen ∧ Rd W B m q ∧ m ≤ k ∧ k ≤ maxLen ∧ (Lit.int .i64 room).wf = true ∧ (Lit.int .i64 arm).wf = true := by
  obtain ⟨cells, rfl, hsize⟩ := okWide_struct Try.underlying24 hval
  have h5 : cells.size = 5 := hsize.trans (by kernel_rfl)
  obtain ⟨fuel, hf⟩ := h
  obtain ⟨xs, m, _, _, _, hxs, hat⟩ := DataW.trod_struct Try.underlying24 hf
  match cells, h5 with
  | ⟨[v0, v1, v2, v3, v4]⟩, _ =>
    match xs, hxs with
    | [y0, y1, y2, y3, y4], _ =>
      have f0 := hat 0 _ rfl
      have f1 := hat 1 _ rfl
      have f2 := hat 2 _ rfl
      have f3 := hat 3 _ rfl
      have f4 := hat 4 _ rfl
      have c22 : Try.prog.cellsOf 22 = 1 := by kernel_rfl
      have c3 : Try.prog.cellsOf 3 = 1 := by kernel_rfl
      have c4 : Try.prog.cellsOf 4 = 1 := by kernel_rfl
      simp [Value.cells, c22, c3, c4] at f0 f1 f2 f3 f4
      obtain ⟨r, e1, _, wr⟩ := DataW.trod_int Try.underlying3 f2
      obtain ⟨u, e2, _, wu⟩ := DataW.trod_int Try.underlying3 f4
      obtain ⟨b, e3, _⟩ := DataW.trod_bool Try.underlying4 f3
      injection e1 with e1
      injection e2 with e2
      injection e3 with e3
      subst e1; subst e2; subst e3
      obtain ⟨A, n, c, s, rfl, hr, hl, hm⟩ := bytes_of_trod Try.underlying22 Try.underlying5 (by kernel_rfl) f0
      obtain ⟨B, n2, k, q, rfl, hr2, hl2, hm2⟩ := bytes_of_trod Try.underlying22 Try.underlying5 (by kernel_rfl) f1
      exact ⟨A, n, c, B, n2, k, r, b, u, s, q, rfl, hr, hl, hm, hr2, hl2, hm2, wr, wu⟩
end Go.Proofs.Ythoaocjeladbkaa
