/- How slices of texts and of ints that came in are opened. -/
import Derived.Test.YtaibmfahfkoahaaGreatFinN
import Derived.Test.YtaibmfahfkoahaaGreatStrs
import Derived.Deep.Strs
import Derived.SizedLaws
namespace Go.Proofs.YtaibmfahfkoahaaGreat
open Go.ChangeShapes Go.WideShapes Go.ChangeAt Go.RowKit
open Go.Deep (open_strs)
set_option linter.unusedVariables false
theorem cStr : Tryz.prog.cellsOf 9 = 1 := by kernel_rfl
theorem rd_of_strs {W : World} {a : Addr} {len m : Nat} {Sx : Nat → ByteArray} (hl : len ≤ m) (hc : ∀ i, i < m → W.cell? (a.add i) = some (.string (Sx i)) ∧ (Sx i).size ≤ maxLen) :
    Reads W W.heap.size 1 (some a) len (svs ((List.range len).map fun i => (Sx i).data.toList)) ∧ ∀ k ∈ (List.range len).map (fun i => (Sx i).data.toList), k.length ≤ maxLen := by
  refine ⟨⟨by simp [svs], fun hn => ⟨a, rfl, ?_, ?_⟩⟩, ?_⟩
  · have := World.block_lt_of_cell? W _ (hc 0 (by omega)).1
    rwa [block_of_add] at this
  · intro j u hj
    have hjl : j < len := by
      rcases Nat.lt_or_ge j len with h | h
      · exact h
      · rw [List.getElem?_eq_none (by simp [svs]; omega)] at hj; cases hj
    rw [(hc j (by omega)).1, ← hj]
    simp [svs, sv, hjl]
  · intro k hk
    simp only [List.mem_map, List.mem_range] at hk
    obtain ⟨i, hi, rfl⟩ := hk
    have := (hc i (by omega)).2
    rw [Array.length_toList]
    exact this
set_option maxRecDepth 100000 in
theorem strs_of {H : Type} {enc : TypeId × Value → H} {W : World} {base base' : Nat} {spare : Nat → Bool} {held : Bool} {v : Value} {d : DataW H} {p : List MemPlace}
    (hv : Value.okWide Tryz.prog W .any base' 22 v) (h : DataW.Trod enc Tryz.prog W base spare held 22 v d p) :
    ∃ A n c ks, v = .slice A n c ∧ Reads W W.heap.size 1 A n (svs ks) ∧ n ≤ c ∧ c ≤ maxLen ∧ (∀ k ∈ ks, k.length ≤ maxLen) := by
  obtain ⟨A, n, c, rfl⟩ := okWide_slice Tryz.underlying22 hv
  obtain ⟨fuel, hf⟩ := h
  rcases open_strs Tryz.underlying22 Tryz.underlying9 cStr hf with ⟨hcs, _⟩ | ⟨x, l, cc, m, Sx, hcs, _, hl, hm, hmm, hd, hcell⟩
  · simp [Value.cells] at hcs
    obtain ⟨rfl, rfl, rfl⟩ := hcs
    exact ⟨none, 0, 0, [], rfl, Reads.none_, Nat.le_refl _, Nat.zero_le _, (fun x h => by cases h)⟩
  · simp [Value.cells] at hcs
    obtain ⟨rfl, rfl, rfl⟩ := hcs
    have hlm : n ≤ m := by rw [hmm]; split <;> omega
    obtain ⟨h1, h2⟩ := rd_of_strs (W := W) hlm hcell
    exact ⟨some x, n, c, _, rfl, h1, hl, hm, h2⟩
end Go.Proofs.YtaibmfahfkoahaaGreat
