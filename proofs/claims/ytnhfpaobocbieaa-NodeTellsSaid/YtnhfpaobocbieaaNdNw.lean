/- node.New. -/
import Derived.Test.YtnhfpaobocbieaaNdV
namespace Go.Proofs.Ytnhfpaobocbieaa
open Go.RowKit
set_option linter.unusedVariables false
def rootV : DV := ⟨⟨2, 7, 1, [], [], []⟩, none, 0, 0, none, 0, 0⟩
theorem root_ok (w : World) (B : Nat) : DVok w B rootV := ⟨Reads.none_, Reads.none_⟩
set_option maxRecDepth 100000 in
set_option maxHeartbeats 4000000 in
theorem new_any (w : World) : Calls Try.prog 22 #[] w fun e w' => e = .returned (.agg #[.slice (some ⟨w.heap.size + 1, 0, none⟩) 1 1]) ∧ FsR w' w'.heap.size (some ⟨w.heap.size + 1, 0, none⟩) 1 [rootV] ∧ Below w.heap.size w w' := by
  go_enter Try.func22, Try.ntmps22
  go_wp2_with fail
  obtain ⟨W2, hW2⟩ : ∃ W, ((w.alloc (.cells #[.slice (some ⟨w.heap.size + 1, 0, none⟩) 1 1] 24)).alloc (.cells rootV.cs.toArray 49)) = W := ⟨_, rfl⟩
  have h1 : Blk W2 w.heap.size 24 #[.slice (some ⟨w.heap.size + 1, 0, none⟩) 1 1] := by rw [← hW2]; exact (Blk.new w _ _).alloc _
  have h2 : Blk W2 (w.heap.size + 1) 49 rootV.cs.toArray := by
    have := Blk.new (w.alloc (.cells #[.slice (some ⟨w.heap.size + 1, 0, none⟩) 1 1] 24)) 49 rootV.cs.toArray
    rw [hW2] at this
    simpa using this
  have hb : Below w.heap.size w W2 := by rw [← hW2]; exact (on_alloc w _).trans ((on_alloc _ _).mono (by simp))
  have HEND : Hid (FsR W2 W2.heap.size (some ⟨w.heap.size + 1, 0, none⟩) 1 [rootV] ∧ Below w.heap.size w W2) := hide ⟨⟨⟨rfl, fun _ => ⟨_, rfl, h2.lt, fun j u hj => by
    rw [at_add, Nat.zero_add, h2.cell j]
    simpa [dcs] using hj⟩⟩, fun x hx => by
      obtain rfl := List.mem_singleton.1 hx
      exact root_ok _ _⟩, hb⟩
  have k0 := one_ h1
  unfold rootV DV.cs at hW2
  dsimp only at hW2
  rw [show (([] : List UInt8).toArray) = #[] from rfl] at hW2
  clear h1 h2 hb
  rw [hW2]
  refine bodyPost_ret (v := .agg #[.slice (some ⟨w.heap.size + 1, 0, none⟩) 1 1]) (by simp only [results, Try.results22]; go_simp) rfl ⟨rfl, HEND.out⟩
end Go.Proofs.Ytnhfpaobocbieaa
