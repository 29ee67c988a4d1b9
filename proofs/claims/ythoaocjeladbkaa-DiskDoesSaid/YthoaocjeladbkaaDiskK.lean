/- joined: both slices, in memory of their own. -/
import Derived.Test.YthoaocjeladbkaaDiskJ
namespace Go.Proofs.Ythoaocjeladbkaa
open Go.RowKit
set_option linter.unusedVariables false

theorem mkN (q : Nat) (hq : q ≤ 100000000) : ∃ zs : Array Value, zs.size = q ∧ ∀ W, (Instr.makeSlice 22 (.int .i64 (q : Int)) (.int .i64 (q : Int))).run Try.prog W = .ok (.slice (some ⟨W.heap.size, 0, none⟩) q q) (W.alloc (.cells zs 5)) := by
  obtain ⟨i, hi, hz, hs, hb⟩ := info_parts infoU8
  refine ⟨madeCells (Value.int .u8 0).cells (q * 1), by rw [size_madeCells, Nat.mul_one], fun W => ?_⟩
  have := run_make_rowN (P := Try.prog) 22 5 i _ Try.underlying22 hi hz .i64 .i64 q q (Nat.le_refl _) (by rw [hb]; omega) (by omega) W
  rw [hs] at this
  exact this

set_option maxHeartbeats 1000000 in
theorem joined_any (A : Option Addr) (n c : Nat) (B : Option Addr) (m k : Nat) (a b : List UInt8) (w : World) (ha : Rd w A n a) (hb : Rd w B m b) (hn : n ≤ 10000000) (hm : m ≤ 10000000) :
    Calls Try.prog 26 #[.slice A n c, .slice B m k] w fun e w' => ∃ J l, e = .returned (.slice J (n + m) l) ∧ w'.ownsRow w.heap.size 5 1 (.slice J (n + m) l) (n + m) (bv (a ++ b)) ∧ Below w.heap.size w w' := by
  have hla := ha.len
  have hlb := hb.len
  by_cases h0 : n + m = 0
  · obtain rfl : n = 0 := by omega
    obtain rfl : m = 0 := by omega
    obtain rfl := List.eq_nil_of_length_eq_zero hla
    obtain rfl := List.eq_nil_of_length_eq_zero hlb
    go_enter Try.func26, Try.ntmps26
    go_wp2
    go_ret
    exact ⟨none, 0, rfl, World.ownsRow_nil _ _ _ _, Below.refl _ _⟩
  · have hzb : ((n : Int) + (m : Int) == 0) = false := beq_eq_false_iff_ne.2 (by omega)
    obtain ⟨zs, hzs, hmk⟩ := mkN (n + m) (by omega)
    have hmk' : ∀ W, (Instr.makeSlice 22 (.int .i64 ((n : Int) + (m : Int))) (.int .i64 ((n : Int) + (m : Int)))).run Try.prog W = .ok (.slice (some ⟨W.heap.size, 0, none⟩) (n + m) (n + m)) (W.alloc (.cells zs 5)) := fun W => by have := hmk W; rwa [Int.natCast_add] at this
    clear hmk
    have HL := hide hzs
    have HA := hide hla
    have HB := hide hlb
    clear hzs hla hlb
    have hsl := fun W => run_slice_from (P := Try.prog) 22 5 Try.underlying22 sizeU8 (some ⟨w.heap.size, 0, none⟩) (n + m) (n + m) .i64 (n : Int) (by omega) (by omega) W
    simp only [Int.toNat_natCast, Nat.add_sub_cancel_left] at hsl
    obtain ⟨D, hD⟩ : ∃ D, D = (if n + m = n then (some ⟨w.heap.size, 0, none⟩ : Option Addr) else (some ⟨w.heap.size, 0, none⟩ : Option Addr).map (·.add n)) := ⟨_, rfl⟩
    rw [← hD] at hsl
    have HD := hide hD
    clear hD
    have hnew := Blk.new w 5 zs
    have hra := ha.alloc (Nat.le_refl _) (.cells zs 5)
    have hrb := hb.alloc (Nat.le_refl _) (.cells zs 5)
    have hbw := hide ((Below.refl w.heap.size w).alloc (Nat.le_refl _) (.cells zs 5))
    go_enter Try.func26, Try.ntmps26
    go_wp2_with (with_reducible refine wpList_copy_splice rfl (.tmp 18) (.tmp 19) 22 22 rfl 5 Try.underlying22 sizeU8 (some ⟨w.heap.size, 0, none⟩) A (n + m) (n + m) n c rfl rfl w.heap.size 0 zs.toList 5 ?hg (bv a) ?hn ?hp ?hf (bv_one _) w.heap.size w ?hb ?hB ?_)
    case hg => rw [Array.toArray_toList]; exact hnew
    case hn => rw [bv_length, HA.out]; exact (Nat.min_eq_left (by omega)).symm
    case hp =>
      intro hpos
      rw [bv_length, HA.out] at hpos
      obtain ⟨ad, e1, _, hc⟩ := hra.2 hpos
      first | exact ⟨rfl, ad, e1, hc⟩ | exact ⟨ad, e1, hc⟩
    case hf => rw [bv_length, HA.out, Array.length_toList, HL.out]; omega
    case hb => exact hbw.out
    case hB => exact Nat.le_refl _
    intro w1 hc1 hbel1
    have hrb1 := Reads.below hb hbel1
    have HC1 := hc1
    have HB1 := hide hbel1
    clear hbel1 hc1
    go_wp2_with (with_reducible refine wpList_copy_splice rfl (.tmp 24) (.tmp 25) 22 22 rfl 5 Try.underlying22 sizeU8 D B m m m k rfl rfl w.heap.size n (splice zs.toList 0 (bv a)) 5 ?j1 (bv b) ?j2 ?j3 ?j4 (bv_one _) w.heap.size w ?j5 ?j6 ?_)
    case j1 => exact HC1.out
    case j2 => rw [bv_length, HB.out]; exact (Nat.min_self _).symm
    case j3 =>
      intro hpos
      rw [bv_length, HB.out] at hpos
      obtain ⟨ad, e1, _, hc⟩ := hrb1.2 hpos
      refine ⟨?_, ad, e1, hc⟩
      rw [HD.out, if_neg (by omega)]
      unfold Addr.add
      by_cases hn0 : n = 0 <;> simp [hn0]
    case j4 => rw [length_splice _ _ _ (by rw [bv_length, HA.out, Array.length_toList, HL.out]; omega), bv_length, HB.out, Array.length_toList, HL.out]; omega
    case j5 => exact HB1.out
    case j6 => exact Nat.le_refl _
    intro w2 hc2 hbel2
    have HC2 := hc2
    have HB2 := hide hbel2
    clear hc2 hbel2
    go_wp2
    go_ret
    have hsp : splice (splice zs.toList 0 (bv a)) n (bv b) = bv (a ++ b) := by
      have e1 : (bv a).length = n := by rw [bv_length, HA.out]
      have e2 : (bv b).length = m := by rw [bv_length, HB.out]
      have e3 : zs.toList.length = n + m := by rw [Array.length_toList, HL.out]
      rw [bv_append]
      unfold splice
      rw [List.take_zero, List.nil_append, Nat.zero_add, e1, List.take_left' e1, List.drop_append, e1, e2, List.drop_eq_nil_of_le (by omega), List.drop_eq_nil_of_le (by rw [List.length_drop]; omega)]
      simp
    have hrow := HC2.out
    rw [hsp] at hrow
    have ho := Blk.own (w := w2) (g := w.heap.size) (e := 5) (cs := (bv (a ++ b)).toArray) (base := w.heap.size) (cap := n + m) hrow (Nat.le_refl _) (by unfold maxLen; omega) (by simp [bv, HA.out, HB.out])
    exact ⟨_, _, rfl, by simpa using ho, HB2.out⟩
end Go.Proofs.Ythoaocjeladbkaa
