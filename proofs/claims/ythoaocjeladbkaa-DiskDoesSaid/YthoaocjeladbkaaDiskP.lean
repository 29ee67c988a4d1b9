/- The reference's power. -/
import Derived.Test.YthoaocjeladbkaaDiskA
namespace Go.Proofs.Ythoaocjeladbkaa
open Go.RowKit
set_option linter.unusedVariables false

def pwD (dead : Bool) (arm : Int) : Bool := dead || arm == 0
def pwA (dead : Bool) (arm : Int) : Int := if dead = false ∧ 0 < arm then arm - 1 else arm
def pwO (dead : Bool) (arm : Int) : Bool := !(dead || arm == 0)
set_option maxHeartbeats 800000 in
theorem rpower_any (A : Option Addr) (n c : Nat) (B : Option Addr) (m k : Nat) (room : Int) (dead : Bool) (arm : Int) (w : World) (h1 : -1 ≤ arm) (h2 : arm ≤ 9223372036854775807) :
    Calls Try.prog 27 #[dv A n c B m k room dead arm] w fun e w' => e = .returned (.tuple #[dv A n c B m k room (pwD dead arm) (pwA dead arm), .bool (pwO dead arm)]) ∧ Below w.heap.size w w' := by
  have OUT : ∀ (D : Bool) (R : Int) (O : Bool) (W : World), pwD dead arm = D ∧ pwA dead arm = R ∧ pwO dead arm = O → Below w.heap.size w W → Ending.returned (.tuple #[dv A n c B m k room D R, .bool O]) = .returned (.tuple #[dv A n c B m k room (pwD dead arm) (pwA dead arm), .bool (pwO dead arm)]) ∧ Below w.heap.size w W := fun D R O W h hb => ⟨by rw [h.1, h.2.1, h.2.2], hb⟩
  cases hd : dead
  · cases h0 : (arm == 0)
    · have hne := beq_eq_false_iff_ne.1 h0
      by_cases hp : 0 < arm
      · have HE : Hid (pwD dead arm = false ∧ pwA dead arm = arm - 1 ∧ pwO dead arm = true) := hide (by unfold pwD pwA pwO; rw [hd]; simp [h0, hp])
        subst hd
        clear hne
        go_enter Try.func27, Try.ntmps27
        go_wp2
        refine bodyPost_ret (v := .tuple #[dv A n c B m k room false (arm - 1), .bool true]) (by simp only [results, Try.results27]; go_simp) rfl (OUT _ _ _ _ HE.out ?_)
        exact ((Below.refl _ _).alloc (Nat.le_refl _) _).alloc (by simp) _
      · have HE : Hid (pwD dead arm = false ∧ pwA dead arm = arm ∧ pwO dead arm = true) := hide (by unfold pwD pwA pwO; rw [hd]; simp [h0, hp])
        subst hd
        clear hne
        go_enter Try.func27, Try.ntmps27
        go_wp2
        refine bodyPost_ret (v := .tuple #[dv A n c B m k room false arm, .bool true]) (by simp only [results, Try.results27]; go_simp) rfl (OUT _ _ _ _ HE.out ?_)
        exact ((Below.refl _ _).alloc (Nat.le_refl _) _).alloc (by simp) _
    · have HE : Hid (pwD dead arm = true ∧ pwA dead arm = arm ∧ pwO dead arm = false) := hide (by have he := beq_iff_eq.1 h0; unfold pwD pwA pwO; rw [hd]; simp [he])
      subst hd
      go_enter Try.func27, Try.ntmps27
      go_wp2
      refine bodyPost_ret (v := .tuple #[dv A n c B m k room true arm, .bool false]) (by simp only [results, Try.results27]; go_simp) rfl (OUT _ _ _ _ HE.out ?_)
      exact ((Below.refl _ _).alloc (Nat.le_refl _) _).alloc (by simp) _
  · have HE : Hid (pwD dead arm = true ∧ pwA dead arm = arm ∧ pwO dead arm = false) := hide (by unfold pwD pwA pwO; rw [hd]; simp)
    subst hd
    go_enter Try.func27, Try.ntmps27
    go_wp2
    refine bodyPost_ret (v := .tuple #[dv A n c B m k room true arm, .bool false]) (by simp only [results, Try.results27]; go_simp) rfl (OUT _ _ _ _ HE.out ?_)
    exact ((Below.refl _ _).alloc (Nat.le_refl _) _).alloc (by simp) _
end Go.Proofs.Ythoaocjeladbkaa
