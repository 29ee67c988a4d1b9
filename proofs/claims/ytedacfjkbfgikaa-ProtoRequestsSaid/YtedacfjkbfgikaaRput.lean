/- The contract of the reference's Put. -/
import Derived.Test.YtedacfjkbfgikaaPut
namespace Go.Proofs.Ytedacfjkbfgikaa
open Go.RowKit
set_option linter.unusedVariables false

set_option maxRecDepth 100000 in
set_option maxHeartbeats 400000 in
theorem rput_no (n : Int) (m : Int) (w : World) (h : m < 1 ∨ 8 < m) :
    Calls Try.prog 104 #[.int .u64 n, .int .i64 m] w fun e w' => e = .returned (.slice none 0 0) ∧ w = w' := by
  rcases h with h | h
  · go_enter Try.func104, Try.ntmps104
    go_wp2
    go_ret
    exact ⟨rfl, rfl⟩
  · have h' : ¬ m < 1 := by omega
    go_enter Try.func104, Try.ntmps104
    go_wp2
    go_ret
    exact ⟨rfl, rfl⟩
set_option maxRecDepth 100000 in
set_option maxHeartbeats 400000 in
theorem rput_yes (n : Nat) (m : Nat) (w : World) (h1 : 1 ≤ m) (h2 : m ≤ 8) (hn : n < 18446744073709551616) :
    Calls Try.prog 104 #[.int .u64 n, .int .i64 m] w fun e w' => ∃ v, e = .returned v ∧ w'.ownsRow w.heap.size 5 1 v m (bv (be m n)) ∧ Below w.heap.size w w' := by
  obtain ⟨i0, hi, hz0, hz1, hz2⟩ := info_parts info5
  have hmk := fun W => run_make_rowN (P := Try.prog) 22 5 i0 _ Try.underlying22 hi hz0 .i64 .i64 m m (Nat.le_refl _) (by rw [hz2]; omega) (by omega) W
  have e0 : (madeCells (Value.int .u8 0).cells (m * i0.size)) = (bv (List.replicate (m - 0) 0 ++ be 0 n)).toArray := by
    rw [hz1]
    apply Array.ext'
    rw [made_bytes]
    simp [be]
  rw [e0] at hmk
  clear e0
  have hblk := Blk.new w 5 (bv (List.replicate (m - 0) 0 ++ be 0 n)).toArray
  have hbel := (Below.refl w.heap.size w).alloc (Nat.le_refl _) (.cells (bv (List.replicate (m - 0) 0 ++ be 0 n)).toArray 5)
  go_enter Try.func104, Try.ntmps104
  go_wp2
  go_loopw [0, 6] (fun x i wr => ∃ k : Nat, k ≤ m ∧ i = .int .i64 (m - k - 1) ∧ x = .int .u64 (n / 256 ^ k : Nat) ∧ Blk wr w.heap.size 5 (bv (List.replicate (m - k) 0 ++ be k n)).toArray ∧ Below w.heap.size w wr ∧ w.heap.size < wr.heap.size) (fun _ i _ => (intOf i + 1).toNat)
  case atStart => exact ⟨0, by omega, by simp, by simp, hblk, hbel, by simp⟩
  case round =>
    obtain ⟨k, hk, rfl, rfl, hb, hbw, hlt0⟩ := hrel
    clear hmk hblk hbel
    have hdiv : n / 256 ^ k < 18446744073709551616 := Nat.lt_of_le_of_lt (Nat.div_le_self _ _) hn
    by_cases hlt : k < m
    · have hz := hb.frozen (m - k - 1)
      have hcl : m - k - 1 < (bv (List.replicate (m - k) 0 ++ be k n)).toArray.size := by simp [bv, be_length]; omega
      have hc := hb.cell (m - k - 1)
      rw [Array.getElem?_eq_getElem hcl] at hc
      obtain ⟨q, hq⟩ : ∃ q, n / 256 ^ k = q := ⟨_, rfl⟩
      have HQ := hide hq
      rw [hq] at hdiv ⊢
      clear hq
      go_wp2
      go_roundw
      case rel =>
        refine ⟨k + 1, by omega, by go_num, ?_, ?_, hbw.setCell (Nat.le_refl _) _, by simpa [World.setCell] using hlt0⟩
        · rw [Nat.pow_succ, ← Nat.div_div_eq_div_mul, HQ.out]; go_num
        · have := hb.set_ (m - k - 1) (.int .u8 ((n / 256 ^ k % 256 : Nat) : Int))
          have h7 : m - k - 1 = m - 1 - k := by omega
          rw [h7] at this ⊢
          rw [be_stepV m k n hlt, HQ.out] at this
          exact this
      case measure => simp [intOf]; omega
    · obtain rfl : k = m := by omega
      go_wp2
      go_ret
      refine ⟨_, rfl, ?_, hbw⟩
      have := Blk.own (w := wr) (g := w.heap.size) (e := 5) (base := w.heap.size) (cap := k) hb (by omega) (by unfold maxLen; omega) (by simp [bv, be_length])
      simpa using this
end Go.Proofs.Ytedacfjkbfgikaa