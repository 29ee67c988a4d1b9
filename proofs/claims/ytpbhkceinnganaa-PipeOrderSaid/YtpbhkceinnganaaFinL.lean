/- How slices of slices of bytes, and slices of ints, that came in are opened. -/
import Derived.Test.YtpbhkceinnganaaFinN
import Derived.Test.YtpbhkceinnganaaPipeY
import Derived.Deep.Slices
namespace Go.Proofs.Ytpbhkceinnganaa
open Go.ChangeShapes Go.WideShapes Go.ChangeAt Go.RowKit Go.Joins Go.Deep
set_option linter.unusedVariables false

theorem rws_of {H : Type} {enc : TypeId × Value → H} {W : World} {base : Nat} {sp : Nat → Bool} {held : Bool} {v : Value} {d : DataW H} {p : List MemPlace}
    (hval : Value.okWide Try.prog W .any base 44 v) (h : DataW.Trod enc Try.prog W 0 sp held 44 v d p) :
    ∃ L n c, v = .slice L n c ∧ Rws W L n ∧ n ≤ c ∧ c ≤ maxLen := by
  obtain ⟨L, n, c, rfl⟩ := okWide_slice Try.underlying44 hval
  obtain ⟨fuel, hf⟩ := h
  simp only [Value.cells] at hf
  rcases open_slice1 Try.underlying44 (by kernel_rfl) hf with ⟨hcs, _⟩ | ⟨a, l, cc, m, k, V, D, Pl, hcs, _, hl, hm, hmm, _, hat⟩
  · injection hcs with hcs
    injection hcs with e1 e2 e3
    subst e1; subst e2; subst e3
    exact ⟨none, 0, 0, rfl, fun i hi => absurd hi (by omega), Nat.le_refl _, Nat.zero_le _⟩
  · injection hcs with hcs
    injection hcs with e1 e2 e3
    subst e1; subst e2; subst e3
    refine ⟨some a, n, c, rfl, fun i hi => ?_, hl, hm⟩
    obtain ⟨hcell, ht⟩ := hat i (by rw [hmm]; split <;> omega)
    obtain ⟨A, q, cq, bs, hv, hr, h1, h2⟩ := bytes_of_trod Try.underlying22 Try.underlying5 (by kernel_rfl) ht
    rw [hv] at hcell
    have hb := World.block_lt_of_cell? W _ hcell
    rw [block_of_add] at hb
    exact ⟨a, A, q, cq, bs, rfl, hb, hcell, hr, h1, h2⟩
theorem ins_of {H : Type} {enc : TypeId × Value → H} {W : World} {base : Nat} {sp : Nat → Bool} {held : Bool} {v : Value} {d : DataW H} {p : List MemPlace}
    (hval : Value.okWide Try.prog W .any base 45 v) (h : DataW.Trod enc Try.prog W 0 sp held 45 v d p) :
    ∃ L n c, v = .slice L n c ∧ Ins W L n ∧ n ≤ c ∧ c ≤ maxLen := by
  obtain ⟨L, n, c, rfl⟩ := okWide_slice Try.underlying45 hval
  obtain ⟨fuel, hf⟩ := h
  simp only [Value.cells] at hf
  rcases open_ints Try.underlying45 Try.underlying3 (by kernel_rfl) hf with ⟨hcs, _⟩ | ⟨a, l, cc, zs, hcs, _, hl, hm, hz, _, hcell, hw⟩
  · injection hcs with hcs
    injection hcs with e1 e2 e3
    subst e1; subst e2; subst e3
    exact ⟨none, 0, 0, rfl, fun i hi => absurd hi (by omega), Nat.le_refl _, Nat.zero_le _⟩
  · injection hcs with hcs
    injection hcs with e1 e2 e3
    subst e1; subst e2; subst e3
    refine ⟨some a, n, c, rfl, fun i hi => ?_, hl, hm⟩
    have hi2 : i < zs.length := by rw [hz]; split <;> omega
    have hc := hcell i hi2
    have hb := World.block_lt_of_cell? W _ hc
    rw [block_of_add] at hb
    have hwi := i64R_of (hw (zs.getD i 0) (by rw [List.getD_eq_getElem?_getD, List.getElem?_eq_getElem hi2]; exact List.getElem_mem _))
    exact ⟨a, zs.getD i 0, rfl, hb, hc, hwi.1, hwi.2⟩
end Go.Proofs.Ytpbhkceinnganaa
