/- How rows of bytes that came in are opened. -/
import Derived.Test.YtgmpcgcmcheelaaFinN
import Derived.Test.YtgmpcgcmcheelaaFrameC
import Derived.Deep.Slices
namespace Go.Proofs.Ytgmpcgcmcheelaa
open Go.ChangeShapes Go.WideShapes Go.ChangeAt Go.RowKit Go.Joins Go.Deep
set_option linter.unusedVariables false

theorem rows_list {W : World} {a : Addr} : ∀ (n : Nat), (∀ i, i < n → ∃ A q cq bs, W.cell? (a.add i) = some (.slice A q cq) ∧ Rd W A q bs) →
    ∃ (vs : List Value) (bs : List Bs), vs.length = n ∧ RowsV W W.heap.size vs bs ∧ ∀ (j : Nat) u, vs[j]? = some u → W.cell? (a.add j) = some u := by
  intro n
  induction n with
  | zero => intro _; exact ⟨[], [], rfl, RowsV.nil _ _, fun j u h => by simp at h⟩
  | succ n ih =>
    intro h
    obtain ⟨vs, bs, h1, h2, h3⟩ := ih fun i hi => h i (by omega)
    obtain ⟨A, q, cq, b, hc, hr⟩ := h n (by omega)
    refine ⟨vs ++ [.slice A q cq], bs ++ [b], by simp [h1], RowsV.snoc h2 ⟨A, q, cq, rfl, hr⟩, fun j u hj => ?_⟩
    rcases Nat.lt_or_ge j vs.length with hl | hl
    · rw [List.getElem?_append_left hl] at hj; exact h3 j u hj
    · rw [List.getElem?_append_right hl] at hj
      rcases Nat.eq_zero_or_pos (j - vs.length) with h0 | h0
      · rw [h0] at hj
        simp at hj
        subst hj
        have : j = n := by omega
        rw [this]; exact hc
      · rw [List.getElem?_eq_none (by simp; omega)] at hj; cases hj
theorem rws_of {H : Type} {enc : TypeId × Value → H} {W : World} {base : Nat} {sp : Nat → Bool} {held : Bool} {v : Value} {d : DataW H} {p : List MemPlace}
    (hval : Value.okWide Try.prog W .any base 26 v) (h : DataW.Trod enc Try.prog W 0 sp held 26 v d p) :
    ∃ L n c bs, v = .slice L n c ∧ RowsP W L n bs ∧ n ≤ c ∧ c ≤ maxLen := by
  obtain ⟨L, n, c, rfl⟩ := okWide_slice Try.underlying26 hval
  obtain ⟨fuel, hf⟩ := h
  simp only [Value.cells] at hf
  rcases open_slice1 Try.underlying26 (by kernel_rfl) hf with ⟨hcs, _⟩ | ⟨a, l, cc, m, k, V, D, Pl, hcs, _, hl, hm, hmm, _, hat⟩
  · injection hcs with hcs
    injection hcs with e1 e2 e3
    subst e1; subst e2; subst e3
    exact ⟨none, 0, 0, [], rfl, RowsP.nil _, Nat.le_refl _, Nat.zero_le _⟩
  · injection hcs with hcs
    injection hcs with e1 e2 e3
    subst e1; subst e2; subst e3
    have key : ∀ i, i < n → ∃ A q cq bs, W.cell? (a.add i) = some (.slice A q cq) ∧ Rd W A q bs := by
      intro i hi
      obtain ⟨hcell, ht⟩ := hat i (by rw [hmm]; split <;> omega)
      obtain ⟨A, q, cq, bs, hv, hr, h1, h2⟩ := bytes_of_trod Try.underlying22 Try.underlying5 (by kernel_rfl) ht
      rw [hv] at hcell
      exact ⟨A, q, cq, bs, hcell, hr⟩
    obtain ⟨vs, bs, h1, h2, h3⟩ := rows_list n key
    refine ⟨some a, n, c, bs, rfl, ⟨vs, ⟨by rw [h1]; omega, fun h0 => ⟨a, rfl, ?_, h3⟩⟩, h2⟩, hl, hm⟩
    obtain ⟨A, q, cq, b, hc, _⟩ := key 0 h0
    have hb := World.block_lt_of_cell? W _ hc
    rwa [block_of_add] at hb
end Go.Proofs.Ytgmpcgcmcheelaa
