/- How slices of texts and of ints that came in are opened. -/
import Derived.Test.YtedacfjkbfgikaaFinN
import Derived.Test.YtedacfjkbfgikaaStrs
import Derived.Deep.Strs
import Derived.SizedLaws
namespace Go.Proofs.Ytedacfjkbfgikaa
open Go.ChangeShapes Go.WideShapes Go.ChangeAt Go.RowKit
open Go.Deep (open_strs)
set_option linter.unusedVariables false
theorem cStr : Try.prog.cellsOf 9 = 1 := by kernel_rfl
theorem rd_of_strs {W : World} {a : Addr} {len m : Nat} {Sx : Nat → ByteArray} (hl : len ≤ m) (hc : ∀ i, i < m → W.cell? (a.add i) = some (.string (Sx i)) ∧ (Sx i).size ≤ maxLen) :
    Reads W W.heap.size 1 (some a) len (svs ((List.range len).map fun i => (Sx i).data.toList)) ∧ ∀ k ∈ (List.range len).map (fun i => (Sx i).data.toList), k.length ≤ maxLen := by
  refine ⟨⟨by simp [svs], fun hn => ⟨a, rfl, ?_, ?_⟩⟩, ?_⟩
  · have := World.block_lt_of_cell? W _ (hc 0 (by omega)).1
    rwa [block_of_add] at this
  · intro j u hj
    have hjl : j < len := by
      rcases Nat.lt_or_ge j len with h | h
      · exact h
      · rw [List.getElem?_eq_none (by simp [svs]; omega)] at hj; cases hj
    rw [(hc j (by omega)).1, ← hj]
    simp [svs, sv, hjl]
  · intro k hk
    simp only [List.mem_map, List.mem_range] at hk
    obtain ⟨i, hi, rfl⟩ := hk
    have := (hc i (by omega)).2
    rw [Array.length_toList]
    exact this
set_option maxRecDepth 100000 in
theorem strs_of {H : Type} {enc : TypeId × Value → H} {W : World} {base base' : Nat} {spare : Nat → Bool} {held : Bool} {v : Value} {d : DataW H} {p : List MemPlace}
    (hv : Value.okWide Try.prog W .any base' 23 v) (h : DataW.Trod enc Try.prog W base spare held 23 v d p) :
    ∃ A n c ks, v = .slice A n c ∧ Reads W W.heap.size 1 A n (svs ks) ∧ n ≤ c ∧ c ≤ maxLen ∧ (∀ k ∈ ks, k.length ≤ maxLen) := by
  obtain ⟨A, n, c, rfl⟩ := okWide_slice Try.underlying23 hv
  obtain ⟨fuel, hf⟩ := h
  rcases open_strs Try.underlying23 Try.underlying9 cStr hf with ⟨hcs, _⟩ | ⟨x, l, cc, m, Sx, hcs, _, hl, hm, hmm, hd, hcell⟩
  · simp [Value.cells] at hcs
    obtain ⟨rfl, rfl, rfl⟩ := hcs
    exact ⟨none, 0, 0, [], rfl, Reads.none_, Nat.le_refl _, Nat.zero_le _, (fun x h => by cases h)⟩
  · simp [Value.cells] at hcs
    obtain ⟨rfl, rfl, rfl⟩ := hcs
    have hlm : n ≤ m := by rw [hmm]; split <;> omega
    obtain ⟨h1, h2⟩ := rd_of_strs (W := W) hlm hcell
    exact ⟨some x, n, c, _, rfl, h1, hl, hm, h2⟩
theorem cInt : Try.prog.cellsOf 3 = 1 := by kernel_rfl
set_option maxRecDepth 100000 in
theorem ints_of {H : Type} {enc : TypeId × Value → H} {W : World} {base base' : Nat} {spare : Nat → Bool} {held : Bool} {v : Value} {d : DataW H} {p : List MemPlace}
    (hv : Value.okWide Try.prog W .any base' 24 v) (h : DataW.Trod enc Try.prog W base spare held 24 v d p) :
    ∃ A n c zs, v = .slice A n c ∧ Reads W W.heap.size 1 A n (List.map (fun z => Value.int .i64 z) zs) ∧ n ≤ c ∧ c ≤ maxLen ∧ (∀ z ∈ zs, (Lit.int .i64 z).wf = true) := by
  obtain ⟨A, n, c, rfl⟩ := okWide_slice Try.underlying24 hv
  obtain ⟨fuel, hf⟩ := h
  rcases open_ints Try.underlying24 Try.underlying3 cInt hf with ⟨hcs, _⟩ | ⟨x, l, cc, zs, hcs, _, hl, hm, hz, hd, hcell, hwz⟩
  · simp [Value.cells] at hcs
    obtain ⟨rfl, rfl, rfl⟩ := hcs
    exact ⟨none, 0, 0, [], rfl, Reads.none_, Nat.le_refl _, Nat.zero_le _, (fun x h => by cases h)⟩
  · simp [Value.cells] at hcs
    obtain ⟨rfl, rfl, rfl⟩ := hcs
    have hlz : n ≤ zs.length := by rw [hz]; split <;> omega
    refine ⟨some x, n, c, zs.take n, rfl, ⟨by simp; omega, fun hn => ⟨x, rfl, ?_, ?_⟩⟩, hl, hm, fun z h => hwz z (List.mem_of_mem_take h)⟩
    · have := World.block_lt_of_cell? W _ (hcell 0 (by omega))
      rwa [block_of_add] at this
    · intro j u hj
      have hjl : j < n := by
        rcases Nat.lt_or_ge j n with h | h
        · exact h
        · rw [List.getElem?_eq_none (by simp; omega)] at hj; cases hj
      have hg : zs[j]? = some (zs.getD j 0) := by rw [List.getD_eq_getElem?_getD, List.getElem?_eq_getElem (by omega)]; rfl
      rw [hcell j (by omega), ← hj]
      rw [List.getElem?_map, List.getElem?_take, if_pos hjl, hg]; rfl
end Go.Proofs.Ytedacfjkbfgikaa
