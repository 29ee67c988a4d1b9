/- How a slice of pieces that came in is opened. -/
import Derived.Test.YtnongbbhpkmdjaaFinN
import Derived.Test.YtnongbbhpkmdjaaFldK
import Derived.Deep.Slices
import Derived.Deep.Fields
namespace Go.Proofs.Ytnongbbhpkmdjaa
open Go.ChangeShapes Go.WideShapes Go.ChangeAt Go.RowKit
open Go.Deep (open_slice)
set_option linter.unusedVariables false
theorem cPc : Try.prog.cellsOf 35 = 4 := by kernel_rfl
/-- One piece. -/
theorem pc_of {H : Type} {enc : TypeId × Value → H} {W : World} {base : Nat} {spare : Nat → Bool} {held : Bool} {fuel : Nat} {cs : List Value} {x : DataW H × List MemPlace}
    (h : DataW.trod enc Try.prog W base spare held fuel 35 cs = some x) : ∃ q : Pc, cs = pv q := by
  obtain ⟨xs, n, _, _, hlen, hxl, hf⟩ := DataW.trod_struct Try.underlying35 h
  have hl : cs.length = 4 := hlen.trans cPc
  have hx4 : xs.length = 4 := hxl
  match cs, hl, xs, hx4 with
  | [c0, c1, c2, c3], _, [x0, x1, x2, x3], _ =>
    have h0 := hf 0 _ rfl
    have h1 := hf 1 _ rfl
    have h2 := hf 2 _ rfl
    have h3 := hf 3 _ rfl
    obtain ⟨s, e0, _, _⟩ := DataW.trod_string Try.underlying9 h0
    obtain ⟨b1, e1, _⟩ := DataW.trod_bool Try.underlying4 h1
    obtain ⟨b2, e2, _⟩ := DataW.trod_bool Try.underlying4 h2
    obtain ⟨b3, e3, _⟩ := DataW.trod_bool Try.underlying4 h3
    have f0 : c0 = .string s := by injection e0
    have f1 : c1 = .bool b1 := by injection e1
    have f2 : c2 = .bool b2 := by injection e2
    have f3 : c3 = .bool b3 := by injection e3
    obtain ⟨l, rfl⟩ := bs_of s
    exact ⟨⟨l, b1, b2, b3⟩, by rw [f0, f1, f2, f3]; rfl⟩
/-- Pieces one behind the other. -/
theorem pcs_at {W : World} {a : Addr} : ∀ (n o : Nat), (∀ i, i < n → ∃ q : Pc, ∀ j u, (pv q)[j]? = some u → W.cell? (a.add ((o + i) * 4 + j)) = some u) →
    ∃ l : List Pc, l.length = n ∧ ∀ j u, (pvs l)[j]? = some u → W.cell? (a.add (o * 4 + j)) = some u
  | 0, o, h => ⟨[], rfl, fun j u hj => by simp [pvs] at hj⟩
  | n + 1, o, h => by
    obtain ⟨q, hq⟩ := h 0 (by omega)
    obtain ⟨l, hl, hc⟩ := pcs_at n (o + 1) (fun i hi => by
      obtain ⟨q, hq⟩ := h (i + 1) (by omega)
      exact ⟨q, fun j u hj => by rw [show o + 1 + i = o + (i + 1) by omega]; exact hq j u hj⟩)
    refine ⟨q :: l, by simp [hl], fun j u hj => ?_⟩
    unfold pvs at hj
    have h4 : (pv q).length = 4 := rfl
    rcases Nat.lt_or_ge j 4 with h | h
    · rw [List.getElem?_append_left (by rw [h4]; exact h)] at hj
      exact hq j u hj
    · rw [List.getElem?_append_right (by rw [h4]; exact h), h4] at hj
      have := hc (j - 4) u hj
      rwa [show (o + 1) * 4 + (j - 4) = o * 4 + j by omega] at this
theorem pcs_of {H : Type} {enc : TypeId × Value → H} {W : World} {base base' : Nat} {spare : Nat → Bool} {held : Bool} {v : Value} {d : DataW H} {p : List MemPlace}
    (hv : Value.okWide Try.prog W .any base' 22 v) (h : DataW.Trod enc Try.prog W base spare held 22 v d p) :
    ∃ A n c l, v = .slice A n c ∧ RdP W A n l ∧ n ≤ c ∧ c ≤ maxLen := by
  obtain ⟨A, n, c, rfl⟩ := okWide_slice Try.underlying22 hv
  obtain ⟨fuel, hf⟩ := h
  rcases open_slice Try.underlying22 hf with ⟨hcs, _⟩ | ⟨x, l, cc, m, n', D, Pl, hcs, _, hl, hm, hmm, hd, hcell⟩
  · simp [Value.cells] at hcs
    obtain ⟨rfl, rfl, rfl⟩ := hcs
    exact ⟨none, 0, 0, [], rfl, Reads.none_, Nat.le_refl _, Nat.zero_le _⟩
  · simp [Value.cells] at hcs
    obtain ⟨rfl, rfl, rfl⟩ := hcs
    have hlm : n ≤ m := by rw [hmm]; split <;> omega
    obtain ⟨L, hL, hc⟩ := pcs_at (W := W) (a := x) n 0 (fun i hi => by
      obtain ⟨cs', hc, ht⟩ := hcell i (by omega)
      rw [cPc] at hc
      obtain ⟨_, hcl, hat⟩ := World.cells?_some hc
      obtain ⟨q, rfl⟩ := pc_of ht
      refine ⟨q, fun j u hj => ?_⟩
      have hj4 : j < 4 := by
        rcases Nat.lt_or_ge j 4 with h | h
        · exact h
        · rw [List.getElem?_eq_none (by rw [hcl]; exact h)] at hj; cases hj
      have := hat j hj4
      rw [add_of_add] at this
      rw [Nat.zero_add, this, hj])
    refine ⟨some x, n, c, L, rfl, ⟨by rw [pvs_length, hL], fun hn => ⟨x, rfl, ?_, fun j u hj => ?_⟩⟩, hl, hm⟩
    · have h0 : 0 < (pvs L).length := by rw [pvs_length]; omega
      have := World.block_lt_of_cell? W _ (hc 0 _ (List.getElem?_eq_getElem h0))
      rwa [block_of_add] at this
    · have := hc j u hj
      rwa [Nat.zero_mul, Nat.zero_add] at this
end Go.Proofs.Ytnongbbhpkmdjaa
