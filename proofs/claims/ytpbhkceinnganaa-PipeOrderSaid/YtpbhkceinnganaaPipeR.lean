/- The contract of pipe.Ready and pipe.Open. -/
import Derived.Test.YtpbhkceinnganaaPipeA
namespace Go.Proofs.Ytpbhkceinnganaa
open Go.RowKit
set_option linter.unusedVariables false

def rdyS (n : Nat) (r u : Int) (wr : Bool) : Bool := okP n r u && (if wr then decide (r = 0) || decide (n < 64) else decide (u = 0) || decide (0 < n))
set_option maxHeartbeats 400000 in
theorem ready_any (A : Option Addr) (n c : Nat) (r u : Int) (wr : Bool) (w : World) (hn : n ≤ maxLen) :
    Calls Try.prog 17 #[pv A n c r u, .bool wr] w fun e w' => e = .returned (.bool (rdyS n r u wr)) ∧ Below w.heap.size w w' := by
  have hn' := hn
  unfold maxLen at hn'
  go_enter Try.func17, Try.ntmps17
  go_wp2_with fail
  refine (check_any A n c r u _ hn).mono ?_
  rintro e w1 ⟨rfl, rfl⟩
  by_cases hok : okP n r u = false
  · rw [hok]
    go_wp2
    go_ret
    exact ⟨ret_bool (by unfold rdyS; rw [hok]; rfl), ((Below.refl _ _).alloc (Nat.le_refl _) _).alloc (by simp) _⟩
  · rw [Bool.not_eq_false] at hok
    rw [hok]
    cases wr
    all_goals
      go_wp2
      all_goals
        go_ret
        refine ⟨ret_bool ?_, ((Below.refl _ _).alloc (Nat.le_refl _) _).alloc (by simp) _⟩
        unfold rdyS
        rw [hok, Bool.eq_iff_iff]
        simp
        try (simp_all; done)
        try omega
    go_goals
end Go.Proofs.Ytpbhkceinnganaa
