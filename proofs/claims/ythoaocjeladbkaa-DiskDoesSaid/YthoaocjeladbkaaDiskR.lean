/- The reference's Arm and Same of disks. -/
import Derived.Test.YthoaocjeladbkaaDiskQ
namespace Go.Proofs.Ythoaocjeladbkaa
open Go.RowKit
set_option linter.unusedVariables false

def arA (n m : Nat) (room arm k : Int) : Int := if okD n m room arm = false then arm else max (-1) k
set_option maxHeartbeats 800000 in
theorem rarm_any (A : Option Addr) (c : Nat) (B : Option Addr) (k : Nat) (n m : Nat) (room : Int) (dead : Bool) (arm q : Int) (w : World) (h1 : n ≤ 10000) (h2 : m ≤ 10000) :
    Calls Try.prog 21 #[dv A n c B m k room dead arm, .int .i64 q] w fun e w' => e = .returned (dv A n c B m k room dead (arA n m room arm q)) ∧ Below w.heap.size w w' := by
  go_enter Try.func21, Try.ntmps21
  go_wp2_with fail
  refine (rcheck_any A _ c B _ k room dead arm _ (by omega) (by omega)).mono ?_
  rintro e w2 ⟨rfl, rfl⟩
  cases hok : okD n m room arm
  · have HE : Hid (arA n m room arm q = arm) := hide (by unfold arA; rw [hok]; simp)
    go_wp2
    refine bodyPost_ret (v := dv A n c B m k room dead arm) (by simp only [results, Try.results21]; go_simp) rfl ⟨by rw [HE.out], ?_⟩
    ((repeat (refine Below.alloc ?_ (by first | exact Nat.le_refl _ | (simp; done) | (simp; omega)) _)); exact Below.refl _ _)
  · by_cases hq : -1 < q
    · have HE : Hid (arA n m room arm q = q) := hide (by unfold arA; rw [hok]; simp; omega)
      go_wp2
      refine bodyPost_ret (v := dv A n c B m k room dead q) (by simp only [results, Try.results21]; go_simp) rfl ⟨by rw [HE.out], ?_⟩
      ((repeat (refine Below.alloc ?_ (by first | exact Nat.le_refl _ | (simp; done) | (simp; omega)) _)); exact Below.refl _ _)
    · have HE : Hid (arA n m room arm q = -1) := hide (by unfold arA; rw [hok]; simp; omega)
      have hq' : q ≤ -1 := by omega
      go_wp2
      refine bodyPost_ret (v := dv A n c B m k room dead (-1)) (by simp only [results, Try.results21]; go_simp) rfl ⟨by rw [HE.out], ?_⟩
      ((repeat (refine Below.alloc ?_ (by first | exact Nat.le_refl _ | (simp; done) | (simp; omega)) _)); exact Below.refl _ _)
end Go.Proofs.Ythoaocjeladbkaa
