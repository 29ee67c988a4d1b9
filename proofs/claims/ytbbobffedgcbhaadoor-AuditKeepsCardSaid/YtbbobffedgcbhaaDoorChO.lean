/- How a slice of records that came in is opened. -/
import Derived.Test.YtbbobffedgcbhaaDoorFinBase
import Derived.Test.YtbbobffedgcbhaaDoorChGr
import Derived.Deep.Slices
import Derived.Deep.Fields
namespace Go.Proofs.YtbbobffedgcbhaaDoor
open Go.ChangeShapes Go.WideShapes Go.ChangeAt Go.RowKit
open Go.Deep (open_slice)
set_option linter.unusedVariables false
theorem cRec : Tryd.prog.cellsOf 39 = 6 := by kernel_rfl
set_option maxRecDepth 100000 in
/-- One record. -/
theorem rv_of {H : Type} {enc : TypeId × Value → H} {W : World} {base : Nat} {spare : Nat → Bool} {held : Bool} {fuel : Nat} {cs : List Value} {x : DataW H × List MemPlace}
    (h : DataW.trod enc Tryd.prog W base spare held fuel 39 cs = some x) : ∃ q : RV, cs = q.cs ∧ RVok W q := by
  obtain ⟨xs, n, _, _, hlen, hxl, hf⟩ := DataW.trod_struct Tryd.underlying39 h
  have hl : cs.length = 6 := hlen.trans cRec
  have hx4 : xs.length = 6 := hxl
  match cs, hl, xs, hx4 with
  | [v0, v1, v2, v3, v4, v5], _, [y0, y1, y2, y3, y4, y5], _ =>
    have f0 := hf 0 _ rfl
    have f1 := hf 1 _ rfl
    have f2 := hf 2 _ rfl
    have f3 := hf 3 _ rfl
    have f4 := hf 4 _ rfl
    have f5 := hf 5 _ rfl
    have k1 : Tryd.prog.cellsOf 25 = 1 := by kernel_rfl
    have k2 : Tryd.prog.cellsOf 3 = 1 := by kernel_rfl
    have k3 : Tryd.prog.cellsOf 4 = 1 := by kernel_rfl
    simp [k1, k2, k3, cStr] at f0 f1 f2 f3 f4 f5
    obtain ⟨q, e0, _, wq⟩ := DataW.trod_int Tryd.underlying3 f0
    obtain ⟨o, e1, _, wo⟩ := DataW.trod_int Tryd.underlying3 f1
    obtain ⟨s, e2, _, ws⟩ := DataW.trod_string Tryd.underlying9 f2
    obtain ⟨s2, e3, _, ws2⟩ := DataW.trod_string Tryd.underlying9 f3
    obtain ⟨b, e5, _⟩ := DataW.trod_bool Tryd.underlying4 f5
    injection e0 with e0
    injection e1 with e1
    injection e2 with e2
    injection e3 with e3
    injection e5 with e5
    subst e0; subst e1; subst e2; subst e3; subst e5
    obtain ⟨A, n, c, dg, rfl, hr, hl, hm⟩ := bytes_of_trod Tryd.underlying25 Tryd.underlying5 (by kernel_rfl) f4
    exact ⟨⟨⟨q, o, s.data.toList, s2.data.toList, dg, b⟩, A, n, c⟩, rfl, hr, hl⟩
/-- Records one behind the other. -/
theorem recs_at {W : World} {a : Addr} : ∀ (n o : Nat), (∀ i, i < n → ∃ q : RV, RVok W q ∧ ∀ j u, q.cs[j]? = some u → W.cell? (a.add ((o + i) * 6 + j)) = some u) →
    ∃ l : List RV, l.length = n ∧ (∀ x ∈ l, RVok W x) ∧ ∀ j u, (rcs l)[j]? = some u → W.cell? (a.add (o * 6 + j)) = some u
  | 0, o, h => ⟨[], rfl, (fun x hx => nomatch hx), fun j u hj => by simp [rcs] at hj⟩
  | n + 1, o, h => by
    obtain ⟨q, hk, hq⟩ := h 0 (by omega)
    obtain ⟨l, hl, hk2, hc⟩ := recs_at n (o + 1) (fun i hi => by
      obtain ⟨q, hk, hq⟩ := h (i + 1) (by omega)
      exact ⟨q, hk, fun j u hj => by rw [show o + 1 + i = o + (i + 1) by omega]; exact hq j u hj⟩)
    refine ⟨q :: l, by simp [hl], fun x hx => ?_, fun j u hj => ?_⟩
    · rcases List.mem_cons.1 hx with rfl | h
      · exact hk
      · exact hk2 x h
    unfold rcs at hj
    have h4 : q.cs.length = 6 := rfl
    rcases Nat.lt_or_ge j 6 with h | h
    · rw [List.getElem?_append_left (by rw [h4]; exact h)] at hj
      exact hq j u hj
    · rw [List.getElem?_append_right (by rw [h4]; exact h), h4] at hj
      have := hc (j - 6) u hj
      rwa [show (o + 1) * 6 + (j - 6) = o * 6 + j by omega] at this
set_option maxRecDepth 100000 in
theorem recs_of {H : Type} {enc : TypeId × Value → H} {W : World} {base base' : Nat} {spare : Nat → Bool} {held : Bool} {v : Value} {d : DataW H} {p : List MemPlace}
    (hv : Value.okWide Tryd.prog W .any base' 22 v) (h : DataW.Trod enc Tryd.prog W base spare held 22 v d p) :
    ∃ A n c l, v = .slice A n c ∧ RowR W A n l ∧ n ≤ c ∧ c ≤ maxLen := by
  obtain ⟨A, n, c, rfl⟩ := okWide_slice Tryd.underlying22 hv
  obtain ⟨fuel, hf⟩ := h
  rcases open_slice Tryd.underlying22 hf with ⟨hcs, _⟩ | ⟨x, l, cc, m, n', D, Pl, hcs, _, hl, hm, hmm, hd, hcell⟩
  · simp [Value.cells] at hcs
    obtain ⟨rfl, rfl, rfl⟩ := hcs
    exact ⟨none, 0, 0, [], rfl, ⟨Reads.none_, fun x hx => nomatch hx⟩, Nat.le_refl _, Nat.zero_le _⟩
  · simp [Value.cells] at hcs
    obtain ⟨rfl, rfl, rfl⟩ := hcs
    have hlm : n ≤ m := by rw [hmm]; split <;> omega
    obtain ⟨L, hL, hK, hc⟩ := recs_at (W := W) (a := x) n 0 (fun i hi => by
      obtain ⟨cs', hc, ht⟩ := hcell i (by omega)
      rw [cRec] at hc
      obtain ⟨_, hcl, hat⟩ := World.cells?_some hc
      obtain ⟨q, rfl, hk⟩ := rv_of ht
      refine ⟨q, hk, fun j u hj => ?_⟩
      have hj4 : j < 6 := by
        rcases Nat.lt_or_ge j 6 with h | h
        · exact h
        · rw [List.getElem?_eq_none (by rw [hcl]; exact h)] at hj; cases hj
      have := hat j hj4
      rw [add_of_add] at this
      rw [Nat.zero_add, this, hj])
    refine ⟨some x, n, c, L, rfl, ⟨⟨by rw [rcs_length, hL], fun hn => ⟨x, rfl, ?_, fun j u hj => ?_⟩⟩, hK⟩, hl, hm⟩
    · have h0 : 0 < (rcs L).length := by rw [rcs_length]; omega
      have := World.block_lt_of_cell? W _ (hc 0 _ (List.getElem?_eq_getElem h0))
      rwa [block_of_add] at this
    · have := hc j u hj
      rwa [Nat.zero_mul, Nat.zero_add] at this
end Go.Proofs.YtbbobffedgcbhaaDoor
