/- The contract of num.Put. -/
import Derived.Test.YtedacfjkbfgikaaBase
import Derived.Test.YtedacfjkbfgikaaNumP
namespace Go.Proofs.Ytedacfjkbfgikaa
open Go.RowKit
set_option linter.unusedVariables false

theorem info5 : (Try.prog.info? 5).map (fun i => (i.zero, i.size, i.bytes)) = some (some (.int .u8 0), 1, 1) := by kernel_rfl
theorem made_bytes (n : Nat) : (madeCells (Value.int .u8 0).cells (n * 1)).toList = bv (List.replicate n 0) := by
  apply List.ext_getElem?
  intro j
  by_cases h : j < n
  · simp [madeCells, bv, h, Value.cells, Nat.mod_one]
  · simp [madeCells, bv, h]
theorem be_stepV (m j n : Nat) (h : j < m) : ((bv (List.replicate (m - j) 0 ++ be j n)).toArray.setIfInBounds (m - 1 - j) (.int .u8 ((n / 256 ^ j % 256 : Nat) : Int))) = (bv (List.replicate (m - (j + 1)) 0 ++ be (j + 1) n)).toArray := by
  rw [← be_step m j n h]
  simp [bv, List.map_set]

set_option maxHeartbeats 400000 in
theorem put_no (n : Int) (m : Int) (w : World) (h : m < 1 ∨ 8 < m) :
    Calls Try.prog 90 #[.int .u64 n, .int .i64 m] w fun e w' => e = .returned (.slice none 0 0) ∧ w = w' := by
  rcases h with h | h
  · go_enter Try.func90, Try.ntmps90
    go_wp2
    go_ret
    exact ⟨rfl, rfl⟩
  · have h' : ¬ m < 1 := by omega
    go_enter Try.func90, Try.ntmps90
    go_wp2
    go_ret
    exact ⟨rfl, rfl⟩
set_option maxHeartbeats 400000 in
set_option maxRecDepth 100000 in
theorem put_yes (n : Nat) (m : Nat) (w : World) (h1 : 1 ≤ m) (h2 : m ≤ 8) (hn : n < 18446744073709551616) :
    Calls Try.prog 90 #[.int .u64 n, .int .i64 m] w fun e w' => ∃ v, e = .returned v ∧ w'.ownsRow w.heap.size 5 1 v m (bv (be m n)) ∧ Below w.heap.size w w' := by
  obtain ⟨i0, hi, hz0, hz1, hz2⟩ := info_parts info5
  have hmk := fun W => run_make_rowN (P := Try.prog) 22 5 i0 _ Try.underlying22 hi hz0 .i64 .i64 m m (Nat.le_refl _) (by rw [hz2]; omega) (by omega) W
  have hblk := Blk.new w 108 (bv (List.replicate 8 0 ++ be 0 n)).toArray
  have hbel := (Below.refl w.heap.size w).alloc (Nat.le_refl _) (.cells (bv (List.replicate 8 0 ++ be 0 n)).toArray 108)
  go_enter Try.func90, Try.ntmps90
  go_wp2
  go_loopw [6, 14] (fun _ i wr => ∃ k : Nat, k ≤ 8 ∧ i = .int .i64 k ∧ Blk wr w.heap.size 108 (bv (List.replicate (8 - k) 0 ++ be k n)).toArray ∧ Below w.heap.size w wr ∧ w.heap.size < wr.heap.size) (fun _ i _ => 8 - (intOf i).toNat)
  case atStart => exact ⟨0, by omega, rfl, hblk, hbel, by simp⟩
  case round =>
    obtain ⟨k, hk, rfl, hb, hbw, hlt0⟩ := hrel
    by_cases hlt : k < 8
    · have hz := hb.frozen (8 - 1 - k)
      have hcl : 8 - 1 - k < (bv (List.replicate (8 - k) 0 ++ be k n)).toArray.size := by simp [bv, be_length]; omega
      have hc := hb.cell (8 - 1 - k)
      rw [Array.getElem?_eq_getElem hcl] at hc
      clear hmk hblk hbel
      go_wp2
      go_roundw
      case rel =>
        have e1 : (n : Int) / 2 ^ (8 * k) % 256 = ((n / 256 ^ k % 256 : Nat) : Int) := by
          rw [show (2 : Int) ^ (8 * k) = ((256 ^ k : Nat) : Int) from by rw [Int.pow_mul]; simp]
          simp
        refine ⟨k + 1, by omega, by go_num, ?_, hbw.setCell (Nat.le_refl _) _, by simpa [World.setCell] using hlt0⟩
        rw [e1]
        have := hb.set_ (7 - k) (.int .u8 ((n / 256 ^ k % 256 : Nat) : Int))
        have h7 : 7 - k = 8 - 1 - k := by omega
        rw [h7] at this ⊢
        rw [be_stepV 8 k n hlt] at this
        exact this
      case measure => simp [intOf]; omega
    · obtain rfl : k = 8 := by omega
      clear hblk hbel
      simp only [Nat.sub_self, List.replicate_zero, List.nil_append] at hb
      have hd := be_drop (8 - m) m n
      rw [show 8 - m + m = 8 from by omega] at hd
      have HD := hide hd
      clear hd
      have hlen : (bv (be 8 n)).length = 8 := by simp [bv, be_length]
      have HL := hide hlen
      clear hlen
      have hsl : ∀ W, (Instr.sliceAt 108 (.pointer (some ⟨w.heap.size, 0, none⟩)) (some (.int .i64 (8 - (m : Int)))) none none).run Try.prog W = .ok (.slice (some ⟨w.heap.size, 8 - m, none⟩) m m) W := fun W => by
        rw [run_sliceAt_from 108 5 8 Try.underlying108 (by rw [hi]; simp [hz1]) w.heap.size 0 .i64 (8 - m) (by omega) (by omega) W, show (8 - (m : Int)).toNat = 8 - m from by omega, show 8 - (8 - m) = m from by omega, Nat.zero_add]
      have hnew := Blk.new wr 5 (madeCells #[Value.int .u8 0] m)
      have hb2 := hb.alloc (.cells (madeCells #[Value.int .u8 0] m) 5)
      have hbw2 := hbw.alloc (by omega) (.cells (madeCells #[Value.int .u8 0] m) 5)
      have hB := hide (show Below w.heap.size w (wr.alloc (.cells (madeCells #[Value.int .u8 0] m) 5)) from hbw2)
      go_wp2_with (with_reducible refine wpList_copy_splice rfl (.tmp 28) (.tmp 31) 22 22 rfl 5 Try.underlying22 (by rw [hi]; simp [hz1]) (some ⟨wr.heap.size, 0, none⟩) (some ⟨w.heap.size, 8 - m, none⟩) m m m m rfl rfl wr.heap.size 0 (madeCells #[Value.int .u8 0] m).toList 5 ?hg (bv (be m n)) ?hn ?hp ?hf (bv_one _) w.heap.size w ?hb ?hB ?_)
      case hg => rw [Array.toArray_toList]; exact hnew
      case hn => simp [bv, be_length]
      case hp =>
        intro _ j v hj
        rw [hb.cell, ← hj, ← HD.out]
        simp [bv]
      case hf => simp [bv, be_length, size_madeCells]
      case hb => exact hB.out
      case hB => omega
      intro w' hc' hbel'
      clear hb2 hnew hb
      go_wp2
      go_ret
      refine ⟨_, rfl, ?_, hbel'⟩
      have hsp : splice (madeCells #[Value.int .u8 0] m).toList 0 (bv (be m n)) = bv (be m n) := by
        have : (madeCells #[Value.int .u8 0] m).toList.drop (0 + (bv (be m n)).length) = [] := List.drop_eq_nil_of_le (by rw [Array.length_toList, size_madeCells, bv_length, be_length]; omega)
        unfold splice
        rw [this]
        simp
      have := hc'.out
      rw [hsp] at this
      have := Blk.own (w := w') (g := wr.heap.size) (e := 5) (cs := (bv (be m n)).toArray) (base := w.heap.size) (cap := m) this (by omega) (by unfold maxLen; omega) (by simp [bv, be_length])
      simpa using this
end Go.Proofs.Ytedacfjkbfgikaa
