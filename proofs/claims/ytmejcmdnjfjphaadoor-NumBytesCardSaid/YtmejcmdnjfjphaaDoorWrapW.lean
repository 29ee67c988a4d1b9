import Derived.Test.YtmejcmdnjfjphaaDoorBase
import Derived.Test.YtmejcmdnjfjphaaDoorNumP
import Derived.Test.YtmejcmdnjfjphaaDoorWrapP
namespace Go.Proofs.YtmejcmdnjfjphaaDoor
open Go.RowKit
set_option linter.unusedVariables false

set_option maxHeartbeats 400000 in
theorem wrap_no (n : Int) (m : Int) (w : World) (h : m < 1 ∨ 64 < m) :
    Calls Tryd.prog 22 #[.int .i64 n, .int .i64 m] w fun e w' => e = .returned (.int .i64 0) ∧ w = w' := by
  rcases h with h | h
  · go_enter Tryd.func22, Tryd.ntmps22
    go_wp2
    go_ret
    exact ⟨rfl, rfl⟩
  · have h' : ¬ m < 1 := by omega
    go_enter Tryd.func22, Tryd.ntmps22
    go_wp2
    go_ret
    exact ⟨rfl, rfl⟩
set_option maxHeartbeats 400000 in
theorem wrap_yes (n : Int) (m : Int) (w : World) (h1 : 1 ≤ m) (h2 : m ≤ 64) (hn : -9223372036854775808 ≤ n) (hn2 : n ≤ 9223372036854775807) :
    Calls Tryd.prog 22 #[.int .i64 n, .int .i64 m] w fun e w' => e = .returned (.int .i64 (n.bmod (2 ^ m.toNat))) ∧ w = w' := by
  have H := hide (wrap_shifts n m.toNat (by omega) (by omega))
  rw [show 64 - m.toNat = (64 - m).toNat from by omega] at H
  go_enter Tryd.func22, Tryd.ntmps22
  go_wp2
  go_ret
  exact ⟨ret_int H.out, rfl⟩
set_option maxHeartbeats 400000 in
theorem rwrap_no (n : Int) (m : Int) (w : World) (h : m < 1 ∨ 64 < m) :
    Calls Tryd.prog 23 #[.int .i64 n, .int .i64 m] w fun e w' => e = .returned (.int .i64 0) ∧ w = w' := by
  rcases h with h | h
  · go_enter Tryd.func23, Tryd.ntmps23
    go_wp2
    go_ret
    exact ⟨rfl, rfl⟩
  · have h' : ¬ m < 1 := by omega
    go_enter Tryd.func23, Tryd.ntmps23
    go_wp2
    go_ret
    exact ⟨rfl, rfl⟩
theorem u64_pow (k : Nat) (h : k < 64) : IntKind.u64.wrap (2 ^ k) = 2 ^ k := by
  refine IntWalk.u64_in _ ⟨?_, ?_⟩
  · have : (0 : Nat) ≤ 2 ^ k := Nat.zero_le _
    rw [pow_cast]; exact Int.natCast_nonneg _
  · have : (2 : Nat) ^ k ≤ 2 ^ 63 := Nat.pow_le_pow_right (by omega) (by omega)
    rw [pow_cast]; omega
theorem u64_wrap (n : Int) : IntKind.u64.wrap n = n % 18446744073709551616 := by simp [IntKind.wrap, IntKind.bits, IntKind.signed]
set_option maxHeartbeats 400000 in
theorem rwrap_yes (n : Int) (m : Int) (w : World) (h1 : 1 ≤ m) (h2 : m ≤ 64) (hn : -9223372036854775808 ≤ n) (hn2 : n ≤ 9223372036854775807) :
    Calls Tryd.prog 23 #[.int .i64 n, .int .i64 m] w fun e w' => e = .returned (.int .i64 (n.bmod (2 ^ m.toNat))) ∧ w = w' := by
  by_cases h : m = 64
  · subst h
    have H := hide (wrap64_bmod n)
    go_enter Tryd.func23, Tryd.ntmps23
    go_wp2
    go_ret
    have e : wrap64 n = n := by unfold wrap64; omega
    exact ⟨ret_int (e.symm.trans H.out), rfl⟩
  · have H := hide (wrap_rem n m.toNat (by omega))
    have H1 := hide (u64_pow m.toNat (by omega))
    have H2 := hide (u64_pow (m.toNat - 1) (by omega))
    have H3 := hide (u64_mod n m.toNat (by omega))
    have H0 := hide (u64_wrap n)
    go_enter Tryd.func23, Tryd.ntmps23
    go_wp2
    · exfalso
      have : (2 : Int) ^ m.toNat ≠ 0 := by rw [pow_cast]; have : 0 < 2 ^ m.toNat := Nat.pow_pos (by omega); omega
      rename_i h
      rw [H1.out] at h
      exact this h
    all_goals
      go_ret
      rename_i hc
      rw [H1.out, H2.out, H0.out, Int.tmod_eq_emod_of_nonneg (by omega), H3.out] at hc
      refine ⟨ret_int ?_, rfl⟩
      obtain ⟨b1, b2, b3, b4⟩ := rem_bounds n m.toNat (by omega) (by omega)
      rw [H.out, H1.out, H0.out, Int.tmod_eq_emod_of_nonneg (by omega), H3.out]
      first
        | (rw [if_pos hc, H2.out]; exact wrap_hi _ _ b1 b2 b3 b4)
        | (rw [if_neg (by omega)]; exact wrap_lo _ _ b1 b2 b4)
set_option maxHeartbeats 400000 in
theorem same_any (A B : Option Addr) (n m c d : Nat) (a b : List UInt8) (w : World) (X Y : Nat) (ha : Reads w X 1 A n (bv a)) (hb : Reads w Y 1 B m (bv b)) :
    Calls Tryd.prog 10 #[.slice A n c, .slice B m d] w fun e w' => e = .returned (.bool (a == b)) ∧ w = w' := by
  have r1 := run_string_of (P := Tryd.prog) w X 23 9 5 A n c a Tryd.underlying23 Tryd.underlying5 Tryd.underlying9 ha
  have r2 := run_string_of (P := Tryd.prog) w Y 23 9 5 B m d b Tryd.underlying23 Tryd.underlying5 Tryd.underlying9 hb
  go_enter Tryd.func10, Tryd.ntmps10
  go_wp2
  go_ret
  exact ⟨rfl, rfl⟩
end Go.Proofs.YtmejcmdnjfjphaaDoor
