/- Plain facts on two's complement. -/
import Derived.RowKit
namespace Go.Proofs.YtmejcmdnjfjphaaDoor
open Go.RowKit
theorem pow_cast (k : Nat) : ((2 : Int) ^ k) = ((2 ^ k : Nat) : Int) := by simp
theorem bmod_range (n : Int) (k : Nat) (hk : 1 ≤ k) : -((2 : Int) ^ (k - 1)) ≤ n.bmod (2 ^ k) ∧ n.bmod (2 ^ k) < 2 ^ (k - 1) := by
  obtain ⟨j, rfl⟩ : ∃ j, k = j + 1 := ⟨k - 1, by omega⟩
  have hp : (0 : Nat) < 2 ^ (j + 1) := Nat.pow_pos (by omega)
  have h1 := Int.le_bmod (x := n) hp
  have h2 := Int.bmod_lt (x := n) hp
  have e : (2 : Nat) ^ (j + 1) = 2 * 2 ^ j := by rw [Nat.pow_succ]; omega
  rw [e] at h1 h2 ⊢
  simp only [Nat.add_sub_cancel]
  rw [pow_cast]
  omega
theorem bmod_split (n : Int) (m : Nat) : ∃ t : Int, n = n.bmod m + m * t := by
  refine ⟨Int.bdiv n m, ?_⟩
  have := Int.bmod_add_bdiv n m
  omega
theorem bmod_unique (n q t : Int) (k : Nat) (hk : 1 ≤ k) (h1 : -((2 : Int) ^ (k - 1)) ≤ q) (h2 : q < 2 ^ (k - 1)) (h : n = q + (2 ^ k : Nat) * t) : n.bmod (2 ^ k) = q := by
  obtain ⟨j, rfl⟩ : ∃ j, k = j + 1 := ⟨k - 1, by omega⟩
  subst h
  rw [Int.add_mul_bmod_self_left]
  simp only [Nat.add_sub_cancel] at h1 h2
  rw [pow_cast] at h1 h2
  have e : (2 : Nat) ^ (j + 1) = 2 * 2 ^ j := by rw [Nat.pow_succ]; omega
  refine Int.bmod_eq_of_le ?_ ?_ <;> rw [e] <;> omega
theorem wrap64_bmod (n : Int) : wrap64 n = n.bmod (2 ^ 64) := by
  refine (bmod_unique n (wrap64 n) ((n - wrap64 n) / 18446744073709551616) 64 (by omega) ?_ ?_ ?_).symm
  · unfold wrap64; omega
  · unfold wrap64; omega
  · unfold wrap64; omega
/-- num.Wrap's two shifts. -/
theorem wrap_shifts (n : Int) (k : Nat) (hk : 1 ≤ k) (h64 : k ≤ 64) : wrap64 (n * 2 ^ (64 - k)) / 2 ^ (64 - k) = n.bmod (2 ^ k) := by
  obtain ⟨t, ht⟩ := bmod_split n (2 ^ k)
  have hr := bmod_range n k hk
  generalize n.bmod (2 ^ k) = q at *
  obtain ⟨d, hd⟩ : ∃ d, 64 - k = d := ⟨_, rfl⟩
  have hP : (0 : Int) < 2 ^ d := by rw [pow_cast]; have : 0 < 2 ^ d := Nat.pow_pos (by omega); omega
  have e1 : (2 : Int) ^ (k - 1) * 2 ^ d = 9223372036854775808 := by
    rw [← Int.pow_add]; rw [show k - 1 + d = 63 from by omega]; rfl
  have e2 : ((2 ^ k : Nat) : Int) * 2 ^ d = 18446744073709551616 := by
    rw [← pow_cast, ← Int.pow_add]; rw [show k + d = 64 from by omega]; rfl
  have e : n * 2 ^ d = q * 2 ^ d + 18446744073709551616 * t := by
    rw [ht, Int.add_mul, ← e2]
    congr 1
    rw [Int.mul_assoc, Int.mul_comm t, ← Int.mul_assoc]
  have l1 : -9223372036854775808 ≤ q * 2 ^ d := by
    rw [← e1, ← Int.neg_mul]
    exact Int.mul_le_mul_of_nonneg_right hr.1 (Int.le_of_lt hP)
  have l2 : q * 2 ^ d < 9223372036854775808 := by
    rw [← e1]
    exact Int.mul_lt_mul_of_pos_right hr.2 hP
  rw [hd, e]
  have : wrap64 (q * 2 ^ d + 18446744073709551616 * t) = q * 2 ^ d := by unfold wrap64; omega
  rw [this]
  exact Int.mul_ediv_cancel _ (by omega)
/-- What the reference computes. -/
theorem wrap_rem (n : Int) (k : Nat) (hk : 1 ≤ k) : n.bmod (2 ^ k) = if 2 ^ (k - 1) ≤ n % 2 ^ k then n % 2 ^ k - 2 ^ (k - 1) - 2 ^ (k - 1) else n % 2 ^ k := by
  obtain ⟨j, rfl⟩ : ∃ j, k = j + 1 := ⟨k - 1, by omega⟩
  simp only [Nat.add_sub_cancel]
  have hp : (0 : Int) < 2 ^ j := by rw [pow_cast]; have : 0 < 2 ^ j := Nat.pow_pos (by omega); omega
  have e : (2 : Int) ^ (j + 1) = 2 * 2 ^ j := by rw [Int.pow_succ]; omega
  have e3 : ((2 ^ (j + 1) : Nat) : Int) = 2 * 2 ^ j := by rw [← pow_cast]; exact e
  have h1 := Int.emod_nonneg n (b := 2 ^ (j + 1)) (by rw [e]; omega)
  have h2 := Int.emod_lt_of_pos n (b := 2 ^ (j + 1)) (by rw [e]; omega)
  have h3 := Int.mul_ediv_add_emod n (2 ^ (j + 1))
  split
  · refine bmod_unique n _ (n / 2 ^ (j + 1) + 1) (j + 1) (by omega) (by simp; omega) (by simp; omega) ?_
    rw [e3, Int.mul_add]
    rw [e] at h3 ⊢
    omega
  · refine bmod_unique n _ (n / 2 ^ (j + 1)) (j + 1) (by omega) (by simp; omega) (by simp; omega) ?_
    rw [e3]
    rw [e] at h3 ⊢
    omega
theorem rem_bounds (n : Int) (k : Nat) (hk : 1 ≤ k) (h63 : k ≤ 63) : 0 ≤ n % 2 ^ k ∧ n % 2 ^ k < 2 * 2 ^ (k - 1) ∧ 1 ≤ (2 : Int) ^ (k - 1) ∧ (2 : Int) ^ (k - 1) ≤ 4611686018427387904 := by
  obtain ⟨j, rfl⟩ : ∃ j, k = j + 1 := ⟨k - 1, by omega⟩
  simp only [Nat.add_sub_cancel]
  have hp : (0 : Int) < 2 ^ j := by rw [pow_cast]; have : 0 < 2 ^ j := Nat.pow_pos (by omega); omega
  have e : (2 : Int) ^ (j + 1) = 2 * 2 ^ j := by rw [Int.pow_succ]; omega
  have h1 := Int.emod_nonneg n (b := 2 ^ (j + 1)) (by rw [e]; omega)
  have h2 := Int.emod_lt_of_pos n (b := 2 ^ (j + 1)) (by rw [e]; omega)
  have h3 : (2 : Nat) ^ j ≤ 2 ^ 62 := Nat.pow_le_pow_right (by omega) (by omega)
  refine ⟨h1, by rw [e] at h2 ⊢; omega, by omega, by rw [pow_cast]; omega⟩
theorem wrap_hi (r H : Int) (h0 : 0 ≤ r) (h1 : r < 2 * H) (h2 : 1 ≤ H) (h3 : H ≤ 4611686018427387904) : wrap64 (wrap64 (wrap64 r - wrap64 H) - wrap64 H) = r - H - H := by unfold wrap64; omega
theorem wrap_lo (r H : Int) (h0 : 0 ≤ r) (h1 : r < 2 * H) (h3 : H ≤ 4611686018427387904) : wrap64 r = r := by unfold wrap64; omega
theorem u64_mod (n : Int) (k : Nat) (h : k ≤ 64) : n % 18446744073709551616 % 2 ^ k = n % 2 ^ k := by
  have e : (18446744073709551616 : Int) = 2 ^ k * 2 ^ (64 - k) := by rw [← Int.pow_add, show k + (64 - k) = 64 from by omega]; rfl
  exact Int.emod_emod_of_dvd n ⟨_, e⟩
end Go.Proofs.YtmejcmdnjfjphaaDoor
