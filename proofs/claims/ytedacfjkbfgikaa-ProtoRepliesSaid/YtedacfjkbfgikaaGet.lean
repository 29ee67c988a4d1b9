/- The contract of num.Get. -/
import Derived.Test.YtedacfjkbfgikaaBase
import Derived.Test.YtedacfjkbfgikaaNumP
namespace Go.Proofs.Ytedacfjkbfgikaa
open Go.RowKit
set_option linter.unusedVariables false

set_option maxHeartbeats 400000 in
theorem get_no (A : Option Addr) (n c : Nat) (w : World) (h : n < 1 ∨ 8 < n) :
    Calls Try.prog 105 #[.slice A n c] w fun e w' => e = .returned (.tuple #[.int .u64 0, .int .i64 2]) ∧ w = w' := by
  rcases h with h | h
  · go_enter Try.func105, Try.ntmps105
    go_wp2
    go_ret2
    exact ⟨rfl, rfl⟩
  · have h' : ¬ n < 1 := by omega
    go_enter Try.func105, Try.ntmps105
    go_wp2
    go_ret2
    exact ⟨rfl, rfl⟩

theorem or_shift (a b : Nat) (ha : a < 72057594037927936) (hb : b < 256) : bits .or .u64 ((a * 256 : Nat) : Int) (b : Int) = ((a * 256 + b : Nat) : Int) := by
  rw [u64_or_nat _ _ (by omega) (by omega), nat_join 8 (a * 256) b (by omega) (by omega)]

set_option maxHeartbeats 400000 in
theorem get_yes (A : Option Addr) (n c : Nat) (bs : List UInt8) (w : World) (hn : 1 ≤ n) (hn2 : n ≤ 8) (hr : Rd w A n bs) :
    Calls Try.prog 105 #[.slice A n c] w fun e w' => e = .returned (.tuple #[.int .u64 (numB bs), .int .i64 0]) ∧ w = w' := by
  have hl := hide hr.len
  obtain ⟨ad, hA, _, _⟩ := hr.get (k := 0) (by omega)
  subst hA
  go_enter Try.func105, Try.ntmps105
  go_wp2
  go_loop [4, 5, 16] (fun a _ i => ∃ k : Nat, k ≤ n ∧ i = .int .i64 k ∧ a = .int .u64 (numB (bs.take k))) (fun _ _ i => n - (intOf i).toNat)
  case atStart => exact ⟨0, Nat.zero_le _, rfl, rfl⟩
  case round =>
    obtain ⟨k, hk, rfl, rfl⟩ := hrel
    by_cases hlt : k < n
    · obtain ⟨ad', hA, _, hcell⟩ := hr.get hlt
      cases hA
      have h1 := numB_lt7 (bs.take k) (by simp; omega)
      have h2 := (bs.getD k 0).toNat_lt
      have H := hide (numB_take bs k (by have := hl.out; omega))
      generalize numB (bs.take k) = x at *
      generalize (bs.getD k 0).toNat = y at *
      have H2 := hide (or_shift x y h1 h2)
      go_wp2
      go_round
      case rel => 
        refine ⟨k + 1, by omega, by go_num, ?_⟩
        rw [H.out, ← H2.out]; simp
      case measure => simp [intOf]; omega
    · go_wp2
      go_ret2
      obtain rfl : k = n := by omega
      rw [List.take_of_length_le (by have := hl.out; omega)]
      exact ⟨rfl, rfl⟩
end Go.Proofs.Ytedacfjkbfgikaa
