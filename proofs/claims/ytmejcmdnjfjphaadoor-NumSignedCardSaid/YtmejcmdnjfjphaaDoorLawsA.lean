/- The walks of NumWraps and NumSigned. -/
import Derived.Test.YtmejcmdnjfjphaaDoorHeads
namespace Go.Proofs.YtmejcmdnjfjphaaDoor
open Go.RowKit
set_option linter.unusedVariables false

set_option maxHeartbeats 400000 in
theorem wraps_law (n m : Int) (w : World) (hS : Std w) (hn : i64R n) :
    Calls Tryd.prog 5 #[.int .i64 n, .int .i64 m] w fun e w' => e = .returned (.bool true) ∧ Below w.heap.size w w' := by
  unfold i64R at hn
  by_cases hm : m < 1 ∨ 64 < m
  · go_enter Tryd.func5, Tryd.ntmps5
    go_wp2_with fail
    refine (wrap_no n m w hm).mono ?_
    rintro e w1 ⟨rfl, rfl⟩
    go_wp2_with fail
    refine (rwrap_no n m w hm).mono ?_
    rintro e w1 ⟨rfl, rfl⟩
    go_wp2_with fail
    refine (heads_any w hS).mono ?_
    rintro e w1 ⟨rfl, hb⟩
    go_wp2
    go_ret
    exact ⟨rfl, hb⟩
  · go_enter Tryd.func5, Tryd.ntmps5
    go_wp2_with fail
    refine (wrap_yes n m w (by omega) (by omega) hn.1 hn.2).mono ?_
    rintro e w1 ⟨rfl, rfl⟩
    go_wp2_with fail
    refine (rwrap_yes n m w (by omega) (by omega) hn.1 hn.2).mono ?_
    rintro e w1 ⟨rfl, rfl⟩
    generalize n.bmod (2 ^ m.toNat) = q
    have hq : (q == q) = true := by simp
    go_wp2_with fail
    refine (heads_any w hS).mono ?_
    rintro e w1 ⟨rfl, hb⟩
    go_wp2
    go_ret
    exact ⟨rfl, hb⟩

theorem signed_facts (n m : Int) (k : Nat) (h1 : 1 ≤ k) (h2 : k ≤ 62) :
    -4611686018427387904 ≤ -((2 : Int) ^ (k - 1)) ∧ (2 : Int) ^ (k - 1) ≤ 2305843009213693952 ∧ -((2 : Int) ^ (k - 1)) ≤ n.bmod (2 ^ k) ∧ n.bmod (2 ^ k) < 2 ^ (k - 1) ∧ -((2 : Int) ^ (k - 1)) ≤ m.bmod (2 ^ k) ∧ m.bmod (2 ^ k) < 2 ^ (k - 1) ∧
    (n.bmod (2 ^ k)).bmod (2 ^ k) = n.bmod (2 ^ k) ∧ (wrap64 (n + m)).bmod (2 ^ k) = (n.bmod (2 ^ k) + m.bmod (2 ^ k)).bmod (2 ^ k) := by
  obtain ⟨a1, a2⟩ := bmod_range n k h1
  obtain ⟨b1, b2⟩ := bmod_range m k h1
  have hp : (2 : Nat) ^ (k - 1) ≤ 2 ^ 61 := Nat.pow_le_pow_right (by omega) (by omega)
  have hc : (2 : Int) ^ (k - 1) ≤ 2305843009213693952 := by rw [pow_cast]; omega
  refine ⟨by omega, hc, a1, a2, b1, b2, Int.bmod_bmod, ?_⟩
  rw [Int.bmod_add_bmod, Int.add_bmod_bmod]
  have hd : ((2 ^ k : Nat) : Int) ∣ 18446744073709551616 := by
    refine ⟨2 ^ (64 - k), ?_⟩
    rw [← pow_cast, ← Int.pow_add, show k + (64 - k) = 64 from by omega]
    rfl
  obtain ⟨t, ht⟩ := hd
  have hw : wrap64 (n + m) = n + m + (2 ^ k : Nat) * (t * ((wrap64 (n + m) - (n + m)) / 18446744073709551616)) := by
    rw [← Int.mul_assoc, ← ht]
    unfold wrap64
    omega
  rw [hw, Int.add_mul_bmod_self_left]

set_option maxHeartbeats 400000 in
theorem signed_law (n m k : Int) (w : World) (hS : Std w) (hn : i64R n) (hm : i64R m) :
    Calls Tryd.prog 7 #[.int .i64 n, .int .i64 m, .int .i64 k] w fun e w' => e = .returned (.bool true) ∧ Below w.heap.size w w' := by
  unfold i64R at hn hm
  by_cases hk : k < 1 ∨ 62 < k
  · go_enter Tryd.func7, Tryd.ntmps7
    rcases hk with hk | hk
    · go_wp2_with fail
      refine (heads_any w hS).mono ?_
      rintro e w1 ⟨rfl, hb⟩
      go_wp2
      go_ret
      exact ⟨rfl, hb⟩
    · have hk' : ¬ k < 1 := by omega
      go_wp2_with fail
      refine (heads_any w hS).mono ?_
      rintro e w1 ⟨rfl, hb⟩
      go_wp2
      go_ret
      exact ⟨rfl, hb⟩
  · obtain ⟨f1, f2, f3, f4, f5, f6, f7, f8⟩ := signed_facts n m k.toNat (by omega) (by omega)
    have c1 := wrap_yes n k w (by omega) (by omega) hn.1 hn.2
    have c2 := wrap_yes m k w (by omega) (by omega) hm.1 hm.2
    have c3 := wrap_yes (n.bmod (2 ^ k.toNat)) k w (by omega) (by omega) (by omega) (by omega)
    have c4 := wrap_yes (n.bmod (2 ^ k.toNat) + m.bmod (2 ^ k.toNat)) k w (by omega) (by omega) (by omega) (by omega)
    have hr := wrap64_R (n + m)
    have c5 := wrap_yes (wrap64 (n + m)) k w (by omega) (by omega) hr.1 hr.2
    rw [f7] at c3
    rw [f8] at c5
    have e1 : (k - 1).toNat = k.toNat - 1 := by omega
    generalize n.bmod (2 ^ k.toNat) = x at *
    generalize m.bmod (2 ^ k.toNat) = y at *
    generalize (x + y).bmod (2 ^ k.toNat) = z at *
    generalize hH : (2 : Int) ^ (k.toNat - 1) = H at *
    have C1 := hide c1
    have C2 := hide c2
    have C3 := hide c3
    have C4 := hide c4
    have C5 := hide c5
    have hHf : wrap64 (2 ^ (k.toNat - 1)) = H := by rw [hH]; unfold wrap64; omega
    have t1 : (x == x) = true := by simp
    have t2 : (z == z) = true := by simp
    clear c1 c2 c3 c4 c5 f7 f8 hr hH
    go_enter Tryd.func7, Tryd.ntmps7
    go_wp2_with fail
    refine C1.out.mono ?_
    rintro e w1 ⟨rfl, rfl⟩
    go_wp2_with fail
    refine C2.out.mono ?_
    rintro e w1 ⟨rfl, rfl⟩
    go_wp2_with fail
    refine C3.out.mono ?_
    rintro e w1 ⟨rfl, rfl⟩
    go_wp2_with fail
    refine C4.out.mono ?_
    rintro e w1 ⟨rfl, rfl⟩
    go_wp2_with fail
    refine C5.out.mono ?_
    rintro e w1 ⟨rfl, rfl⟩
    go_wp2_with fail
    refine (heads_any w hS).mono ?_
    rintro e w1 ⟨rfl, hb⟩
    go_wp2
    go_ret
    exact ⟨rfl, hb⟩
end Go.Proofs.YtmejcmdnjfjphaaDoor
