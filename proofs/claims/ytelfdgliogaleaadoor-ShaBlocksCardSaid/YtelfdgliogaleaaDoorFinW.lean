/- How a slice of words that came in is opened. -/
import Derived.Test.YtelfdgliogaleaaDoorFinBase
import Derived.Test.YtelfdgliogaleaaDoorLawK
import Derived.SizedLaws
namespace Go.Proofs.YtelfdgliogaleaaDoor
open Go.ChangeShapes Go.WideShapes Go.ChangeAt Go.RowKit
set_option linter.unusedVariables false
theorem wd_of_ints {W : World} {a : Addr} {len : Nat} {zs : List Int} (hl : len ≤ zs.length) (hc : ∀ i, i < zs.length → W.cell? (a.add i) = some (.int .u32 (zs.getD i 0))) (hw : ∀ n ∈ zs, (Lit.int .u32 n).wf = true) :
    Reads W W.heap.size 1 (some a) len (wv ((zs.take len).map Int.toNat)) ∧ ∀ x ∈ (zs.take len).map Int.toNat, x < 4294967296 := by
  have hrng : ∀ z ∈ zs, 0 ≤ z ∧ z ≤ 4294967295 := fun z hz => by
    have h := hw z hz
    have e1 : IntKind.u32.min = 0 := rfl
    have e2 : IntKind.u32.max = 4294967295 := rfl
    simp only [Lit.wf, e1, e2, Bool.and_eq_true, decide_eq_true_eq] at h
    exact h
  refine ⟨⟨by simp; omega, fun hn => ⟨a, rfl, ?_, ?_⟩⟩, ?_⟩
  · have := World.block_lt_of_cell? W _ (hc 0 (by omega))
    rwa [block_of_add] at this
  · intro j u hj
    have hjl : j < len := by
      rcases Nat.lt_or_ge j len with h | h
      · exact h
      · rw [List.getElem?_eq_none (by simp; omega)] at hj; cases hj
    have hg : zs[j]? = some (zs.getD j 0) := by rw [List.getD_eq_getElem?_getD, List.getElem?_eq_getElem (by omega)]; rfl
    have hz := hrng (zs.getD j 0) (by rw [List.getD_eq_getElem?_getD, List.getElem?_eq_getElem (by omega)]; exact List.getElem_mem _)
    rw [hc j (by omega), ← hj]
    generalize zs.getD j 0 = z at *
    simp only [List.map_map, List.getElem?_map, List.getElem?_take, hjl, if_true, hg, Option.map_some, Function.comp]
    congr 2
    omega
  · intro x hx
    simp only [List.mem_map] at hx
    obtain ⟨z, hz, rfl⟩ := hx
    have := hrng z (List.mem_of_mem_take hz)
    omega
theorem words_of {H : Type} {enc : TypeId × Value → H} {W : World} {base base' : Nat} {spare : Nat → Bool} {held : Bool} {v : Value} {d : DataW H} {p : List MemPlace}
    (hv : Value.okWide Tryd.prog W .any base' 27 v) (h : DataW.Trod enc Tryd.prog W base spare held 27 v d p) :
    ∃ A n c xs, v = .slice A n c ∧ Reads W W.heap.size 1 A n (wv xs) ∧ (∀ x ∈ xs, x < 4294967296) ∧ (n = 0 ∨ ∃ e1 e2, d = .slice e1 e2 ∧ n ≤ e1.length + e2.length) := by
  obtain ⟨A, n, c, rfl⟩ := okWide_slice Tryd.underlying27 hv
  obtain ⟨fuel, hf⟩ := h
  rcases open_ints Tryd.underlying27 Tryd.underlying39 c39 hf with ⟨hcs, _⟩ | ⟨x, l, cc, zs, hcs, _, hl, hm, hz, hd, hcell, hwz⟩
  · simp [Value.cells] at hcs
    obtain ⟨rfl, rfl, rfl⟩ := hcs
    exact ⟨none, 0, 0, [], rfl, Reads.none_, (fun x h => by cases h), .inl rfl⟩
  · simp [Value.cells] at hcs
    obtain ⟨rfl, rfl, rfl⟩ := hcs
    have hlz : n ≤ zs.length := by
      rw [hz]; split <;> omega
    obtain ⟨h1, h2⟩ := wd_of_ints (zs := zs) hlz hcell hwz
    refine ⟨some x, n, c, _, rfl, h1, h2, .inr ⟨lits .u32 (zs.take n), lits .u32 (zs.drop n), ?_, ?_⟩⟩
    · exact (Prod.mk.inj hd).1
    · simp only [lits, List.length_map, List.length_take, List.length_drop]; omega
theorem bytes39 : Tryd.prog.bytesOf 39 = 4 := by kernel_rfl
theorem words_size {H : Type} {ts : List TypeId} {ds : List (DataW H)} {d : DataW H} {n : Nat} (hsz : (DataW.weightsEach Tryd.prog (27 :: ts) (d :: ds)).all (· ≤ reachBytes) = true) (h : n = 0 ∨ ∃ e1 e2, d = .slice e1 e2 ∧ n ≤ e1.length + e2.length) : n * 4 ≤ 140737488351232 := by
  rcases h with h | ⟨e1, e2, rfl, h⟩
  · omega
  · have := sized_slice hsz (j := 0) (t := 27) (e := 39) rfl rfl Tryd.underlying27
    rw [bytes39] at this
    have e : reachBytes = 140737488351232 := by rfl
    omega
end Go.Proofs.YtelfdgliogaleaaDoor
