/- How a list of changes that came in is opened. -/
import Derived.Test.YtlcoapignfmgcaaDoorNmFs
import Derived.Test.YtlcoapignfmgcaaDoorNmKc
namespace Go.Proofs.YtlcoapignfmgcaaDoor
open Go.ChangeShapes Go.WideShapes Go.ChangeAt Go.RowKit
open Go.Deep (open_slice)
set_option linter.unusedVariables false
theorem cDo : Tryd.prog.cellsOf 30 = 7 := by kernel_rfl
set_option maxRecDepth 100000 in
/-- One change. -/
theorem qv_of {H : Type} {enc : TypeId × Value → H} {W : World} {base : Nat} {spare : Nat → Bool} {held : Bool} {fuel : Nat} {cs : List Value} {x : DataW H × List MemPlace}
    (h : DataW.trod enc Tryd.prog W base spare held fuel 30 cs = some x) : ∃ q : QV, cs = q.cs ∧ Reads W W.heap.size 1 q.D q.dn (bv q.q.d) := by
  obtain ⟨xs, n, _, _, hlen, hxl, hf⟩ := DataW.trod_struct Tryd.underlying30 h
  have hl : cs.length = 7 := hlen.trans cDo
  have hx4 : xs.length = 7 := hxl
  match cs, hl, xs, hx4 with
  | [v0, v1, v2, v3, v4, v5, v6], _, [y0, y1, y2, y3, y4, y5, y6], _ =>
    have f0 := hf 0 _ rfl
    have f1 := hf 1 _ rfl
    have f2 := hf 2 _ rfl
    have f3 := hf 3 _ rfl
    have f4 := hf 4 _ rfl
    have f5 := hf 5 _ rfl
    have f6 := hf 6 _ rfl
    have k1 : Tryd.prog.cellsOf 28 = 1 := by kernel_rfl
    have k2 : Tryd.prog.cellsOf 3 = 1 := by kernel_rfl
    have k3 : Tryd.prog.cellsOf 9 = 1 := by kernel_rfl
    simp [k1, k2, k3] at f0 f1 f2 f3 f4 f5 f6
    obtain ⟨q0, e0, _, w0⟩ := DataW.trod_int Tryd.underlying3 f0
    obtain ⟨q1, e1, _, w1⟩ := DataW.trod_int Tryd.underlying3 f1
    obtain ⟨q2, e2, _, w2⟩ := DataW.trod_int Tryd.underlying3 f2
    obtain ⟨s3, e3, _, w3⟩ := DataW.trod_string Tryd.underlying9 f3
    obtain ⟨s4, e4, _, w4⟩ := DataW.trod_string Tryd.underlying9 f4
    obtain ⟨q5, e5, _, w5⟩ := DataW.trod_int Tryd.underlying3 f5
    injection e0 with e0
    injection e1 with e1
    injection e2 with e2
    injection e3 with e3
    injection e4 with e4
    injection e5 with e5
    subst e0; subst e1; subst e2; subst e3; subst e4; subst e5
    obtain ⟨D, dn, dc, dg, rfl, hr, hl, hm⟩ := bytes_of_trod Tryd.underlying28 Tryd.underlying5 (by kernel_rfl) f6
    exact ⟨⟨⟨q0, q1, q2, s3.data.toList, s4.data.toList, q5, dg⟩, D, dn, dc⟩, rfl, hr⟩
set_option maxRecDepth 100000 in
theorem dos_of_trod {H : Type} {enc : TypeId × Value → H} {W : World} {base : Nat} {spare : Nat → Bool} {held : Bool} {fuel : Nat} {v : Value} {x : DataW H × List MemPlace}
    (hf : DataW.trod enc Tryd.prog W base spare held fuel 25 [v] = some x) : ∃ A n c l, v = .slice A n c ∧ DoR W W.heap.size A n l ∧ n ≤ c ∧ c ≤ maxLen := by
  rcases open_slice Tryd.underlying25 hf with ⟨hcs, _⟩ | ⟨y, l, cc, m, n', D, Pl, hcs, _, hl, hm, hmm, hd, hcell⟩
  · injection hcs with hcs
    exact ⟨none, 0, 0, [], hcs, ⟨Reads.none_, fun x hx => nomatch hx⟩, Nat.le_refl _, Nat.zero_le _⟩
  · injection hcs with hcs
    have hlm : l ≤ m := by rw [hmm]; split <;> omega
    obtain ⟨L, hL, hK, hc⟩ := rows_at (W := W) (a := y) 7 QV.cs (fun x => Reads W W.heap.size 1 x.D x.dn (bv x.q.d)) qcs rfl (fun _ _ => rfl) (fun _ => rfl) l 0 (fun i hi => by
      obtain ⟨cs', hc, ht⟩ := hcell i (by omega)
      rw [cDo] at hc
      obtain ⟨_, hcl, hat⟩ := World.cells?_some hc
      obtain ⟨q, rfl, hk⟩ := qv_of ht
      refine ⟨q, hk, fun j u hj => ?_⟩
      have hj4 : j < 7 := by
        rcases Nat.lt_or_ge j 7 with h | h
        · exact h
        · rw [List.getElem?_eq_none (by rw [hcl]; exact h)] at hj; cases hj
      have := hat j hj4
      rw [add_of_add] at this
      rw [Nat.zero_add, this, hj])
    refine ⟨some y, l, cc, L, hcs, ⟨⟨by rw [qcs_length, hL], fun hn => ⟨y, rfl, ?_, fun j u hj => ?_⟩⟩, hK⟩, hl, hm⟩
    · have h0 : 0 < (qcs L).length := by rw [qcs_length]; omega
      have := World.block_lt_of_cell? W _ (hc 0 _ (List.getElem?_eq_getElem h0))
      rwa [block_of_add] at this
    · have := hc j u hj
      rwa [Nat.zero_mul, Nat.zero_add] at this
set_option maxRecDepth 100000 in
theorem dos_of {H : Type} {enc : TypeId × Value → H} {W : World} {base : Nat} {sp : Nat → Bool} {held : Bool} {v : Value} {d : DataW H} {p : List MemPlace}
    (hval : Value.okWide Tryd.prog W .any base 25 v) (h : DataW.Trod enc Tryd.prog W 0 sp held 25 v d p) :
    ∃ A n c l, v = .slice A n c ∧ DoR W W.heap.size A n l ∧ n ≤ c ∧ c ≤ maxLen := by
  obtain ⟨A, n, c, rfl⟩ := okWide_slice Tryd.underlying25 hval
  obtain ⟨fuel, hf⟩ := h
  simp only [Value.cells] at hf
  exact dos_of_trod hf
end Go.Proofs.YtlcoapignfmgcaaDoor
