/- The six changes' contracts at a change. -/
import Derived.Test.YtlcoapignfmgcaaDoorNmKc
namespace Go.Proofs.YtlcoapignfmgcaaDoor
open Go.RowKit
set_option linter.unusedVariables false
section
variable (L : Option Addr) (n c : Nat) (X : List DV) (wh a b kd : Int) (xs ys da : List UInt8)
theorem do_1 (V : World) (hF : FsR V V.heap.size L n X) (hB : FewB X) (hx : xs.length ≤ 300) (hy : ys.length ≤ 300) (h : wh = 1) :
    Calls Tryd.prog 9 #[.agg #[.slice L n c], .int .i64 a, .string ⟨xs.toArray⟩, .agg #[.int .i64 kd, .int .i64 7, .int .i64 0, .slice none 0 0, .slice none 0 0, .string ⟨ys.toArray⟩]] V (fun e w' => ∃ k L' n' c' X', e = .returned (.tuple #[.agg #[.slice L' n' c'], .int .i64 k, .int .i64 (doP (nds X) ⟨wh, a, b, xs, ys, kd, da⟩).2]) ∧ OF V.heap.size w' L' n' c' X' ∧ nds X' = (doP (nds X) ⟨wh, a, b, xs, ys, kd, da⟩).1 ∧ Below V.heap.size V w') := by
  have C := create_c L n c X a xs ⟨⟨kd, 7, 0, [], [], ys⟩, none, 0, 0, none, 0, 0⟩ V hF hB (by omega) ⟨Reads.none_, Reads.none_⟩ ⟨by simp, by dsimp only; omega, by simp, fun y hy => by cases hy⟩
  have e : doP (nds X) ⟨wh, a, b, xs, ys, kd, da⟩ = ((createP (nds X) a xs ⟨kd, 7, 0, [], [], ys⟩).1, (createP (nds X) a xs ⟨kd, 7, 0, [], [], ys⟩).2.2) := by
    unfold doP
    dsimp only
    subst h
    rw [if_pos rfl]
  rw [e]
  refine C.mono ?_
  rintro e w' ⟨L', n', c', X', he, h1, h2, h3⟩
  exact ⟨_, L', n', c', X', he, h1, h2, h3⟩
theorem do_2 (V : World) (hF : FsR V V.heap.size L n X) (hB : FewB X) (hx : xs.length ≤ 300) (h : wh = 2) :
    Calls Tryd.prog 10 #[.agg #[.slice L n c], .int .i64 a, .int .i64 b, .string ⟨xs.toArray⟩] V (fun e w' => ∃ L' n' c' X', e = .returned (.tuple #[.agg #[.slice L' n' c'], .int .i64 (doP (nds X) ⟨wh, a, b, xs, ys, kd, da⟩).2]) ∧ OF V.heap.size w' L' n' c' X' ∧ nds X' = (doP (nds X) ⟨wh, a, b, xs, ys, kd, da⟩).1 ∧ Below V.heap.size V w') := by
  have C := link_c L n c X a b xs V hF hB (by omega)
  have e : doP (nds X) ⟨wh, a, b, xs, ys, kd, da⟩ = linkP (nds X) a b xs := by
    unfold doP
    dsimp only
    subst h
    rw [if_neg (by decide), if_pos rfl]
  rw [e]
  exact C
theorem do_3 (V : World) (hF : FsR V V.heap.size L n X) (hB : FewB X) (h : wh = 3) :
    Calls Tryd.prog 11 #[.agg #[.slice L n c], .int .i64 a, .string ⟨xs.toArray⟩] V (fun e w' => ∃ L' n' c' X', e = .returned (.tuple #[.agg #[.slice L' n' c'], .int .i64 (doP (nds X) ⟨wh, a, b, xs, ys, kd, da⟩).2]) ∧ OF V.heap.size w' L' n' c' X' ∧ nds X' = (doP (nds X) ⟨wh, a, b, xs, ys, kd, da⟩).1 ∧ Below V.heap.size V w') := by
  have C := unlink_c L n c X a xs V hF hB
  have e : doP (nds X) ⟨wh, a, b, xs, ys, kd, da⟩ = unlinkP (nds X) a xs := by
    unfold doP
    dsimp only
    subst h
    rw [if_neg (by decide), if_neg (by decide), if_pos rfl]
  rw [e]
  exact C
theorem do_4 (V : World) (hS : Std V) (hF : FsR V V.heap.size L n X) (hB : FewB X) (hy : ys.length ≤ 300) (h : wh = 4) :
    Calls Tryd.prog 12 #[.agg #[.slice L n c], .int .i64 a, .string ⟨xs.toArray⟩, .int .i64 b, .string ⟨ys.toArray⟩] V (fun e w' => ∃ L' n' c' X', e = .returned (.tuple #[.agg #[.slice L' n' c'], .int .i64 (doP (nds X) ⟨wh, a, b, xs, ys, kd, da⟩).2]) ∧ OF V.heap.size w' L' n' c' X' ∧ nds X' = (doP (nds X) ⟨wh, a, b, xs, ys, kd, da⟩).1 ∧ Below V.heap.size V w') := by
  have C := rename_c L n c X a b xs ys V hS hF hB (by omega)
  have e : doP (nds X) ⟨wh, a, b, xs, ys, kd, da⟩ = renameP (nds X) a xs b ys := by
    unfold doP
    dsimp only
    subst h
    rw [if_neg (by decide), if_neg (by decide), if_neg (by decide), if_pos rfl]
  rw [e]
  exact C
theorem do_5 (D : Option Addr) (dn dc : Nat) (V : World) (hF : FsR V V.heap.size L n X) (hB : FewB X) (hD : Rd V D dn da) (hdn : dn ≤ 100000) (h : wh = 5) :
    Calls Tryd.prog 13 #[.agg #[.slice L n c], .int .i64 a, .int .i64 b, .slice D dn dc] V (fun e w' => ∃ k L' n' c' X', e = .returned (.tuple #[.agg #[.slice L' n' c'], .int .i64 k, .int .i64 (doP (nds X) ⟨wh, a, b, xs, ys, kd, da⟩).2]) ∧ OF V.heap.size w' L' n' c' X' ∧ nds X' = (doP (nds X) ⟨wh, a, b, xs, ys, kd, da⟩).1 ∧ Below V.heap.size V w') := by
  have C := write_c L n c X a b D dn dc da V hF hB hD hdn
  have e : doP (nds X) ⟨wh, a, b, xs, ys, kd, da⟩ = ((writeP (nds X) a b da).1, (writeP (nds X) a b da).2.2) := by
    unfold doP
    dsimp only
    subst h
    rw [if_neg (by decide), if_neg (by decide), if_neg (by decide), if_neg (by decide), if_pos rfl]
  rw [e]
  refine C.mono ?_
  rintro e w' ⟨L', n', c', X', he, h1, h2, h3⟩
  exact ⟨_, L', n', c', X', he, h1, h2, h3⟩
theorem do_6 (V : World) (hF : FsR V V.heap.size L n X) (hB : FewB X) (h : wh = 6) :
    Calls Tryd.prog 14 #[.agg #[.slice L n c], .int .i64 a] V (fun e w' => ∃ L' n' c' X', e = .returned (.tuple #[.agg #[.slice L' n' c'], .int .i64 (doP (nds X) ⟨wh, a, b, xs, ys, kd, da⟩).2]) ∧ OF V.heap.size w' L' n' c' X' ∧ nds X' = (doP (nds X) ⟨wh, a, b, xs, ys, kd, da⟩).1 ∧ Below V.heap.size V w') := by
  have C := trunc_c L n c X a V hF hB
  have e : doP (nds X) ⟨wh, a, b, xs, ys, kd, da⟩ = truncP (nds X) a := by
    unfold doP
    dsimp only
    subst h
    rw [if_neg (by decide), if_neg (by decide), if_neg (by decide), if_neg (by decide), if_neg (by decide), if_pos rfl]
  rw [e]
  exact C
end
theorem do_0 {l : List ND} {wh a b kd : Int} {xs ys da : List UInt8} (h1 : ¬ wh = 1) (h2 : ¬ wh = 2) (h3 : ¬ wh = 3) (h4 : ¬ wh = 4) (h5 : ¬ wh = 5) (h6 : ¬ wh = 6) : (doP l ⟨wh, a, b, xs, ys, kd, da⟩).1 = l ∧ (doP l ⟨wh, a, b, xs, ys, kd, da⟩).2 = 0 := by
  unfold doP
  dsimp only
  rw [if_neg h1, if_neg h2, if_neg h3, if_neg h4, if_neg h5, if_neg h6]
  exact ⟨rfl, rfl⟩
end Go.Proofs.YtlcoapignfmgcaaDoor
