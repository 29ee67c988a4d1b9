/- The reference's contracts: Pad, Words. -/
import Derived.Test.YtbbobffedgcbhaaGreatDoorSrA8
import Derived.Test.YtbbobffedgcbhaaGreatDoorGr
import Derived.Outline
namespace Go.Proofs.YtbbobffedgcbhaaGreatDoor
open Go.RowKit
set_option linter.unusedVariables false
theorem own_empty (w : World) : (w.alloc (.cells #[] 5)).ownsRow w.heap.size 5 1 (.slice (some ⟨w.heap.size, 0, none⟩) 0 0) 0 [] :=
  ⟨rfl, .inr ⟨w.heap.size, 0, #[], rfl, Nat.le_refl _, Blk.new _ _ _, Nat.le_refl _, Nat.zero_le _, rfl, by simp⟩⟩
theorem own_caps {w : World} {base : Nat} {A : Option Addr} {n m c : Nat} {xs : List Value} (h : w.ownsRow base 5 1 (.slice A m c) n xs) : n ≤ c := by
  rcases h.2 with ⟨h, h0⟩ | ⟨g, cap, cur, h, _, _, hc, _⟩
  · injection h; omega
  · injection h; omega
def RetRow (w : World) (bs : List UInt8) (e : Ending) (w' : World) : Prop :=
  ∃ A n c, e = .returned (.slice A n c) ∧ n ≤ c ∧ w'.ownsRow w.heap.size 5 1 (.slice A n c) n (bv bs) ∧ Below w.heap.size w w'
theorem bl_alloc (w : World) (o : Obj) : Below w.heap.size w (w.alloc o) := (Below.refl _ _).alloc (Nat.le_refl _) _
def zcount (n : Nat) : Nat := 64 * blocksN n - 8 - (n + 1)
theorem zcount_mod (n k : Nat) (h : k ≤ zcount n) : ((n + 1 + k) % 64 = 56) ↔ k = zcount n := by
  unfold zcount blocksN at *
  omega
theorem padL_eq (b : List UInt8) : padL b = b ++ 0x80 :: zerosN (zcount b.length) ++ be 8 (8 * b.length) := rfl
set_option maxRecDepth 10000 in
set_option maxHeartbeats 2000000 in
theorem rpad_any (A : Option Addr) (n c : Nat) (bs : List UInt8) (w : World) (hr : Rd w A n bs) (hn : n ≤ 100000) :
    Calls Tryz.prog 84 #[.slice A n c] w (RetRow w (padL bs)) := by
  obtain ⟨i0, hi, hz0, hz1, hz2⟩ := info_parts info5
  have hl := hr.len
  have HL := hide hl
  have hE := hide (own_empty w)
  have hra := hide (Reads.alloc (o := .cells #[] 5) hr (Nat.le_refl _))
  clear hr hl
  go_enter Tryz.func84, Tryz.ntmps84
  go_wp2_with (at_builtin; (refine wpList_append_any _ rfl (.tmp 4) (.tmp 5) 22 rfl w.heap.size 5 i0 _ 1 1 Tryz.underlying22 hi hz0 hz1 hz2 rfl (by omega) (.slice (some ⟨w.heap.size, 0, none⟩) 0 0) 0 [] rfl hE.out w.heap.size A n c (bv bs) rfl hra.out (bv_one _) (by unfold maxLen; omega) (by omega) (by simp) ?_))
  intro v2 w2 ho2 hg2 hat2
  have hbb2 : Below w.heap.size w w2 := (bl_alloc w (.cells #[] 5)).grown hg2 (by simp) (fun g hg => by simp [Value.ownBlock] at hg; omega)
  obtain ⟨A2, c2, rfl⟩ := own_slice ho2
  have HB2 := hide hbb2
  have HO2 := hide ho2
  have hsz2 := hbb2.size
  have hone : Reads (w2.alloc (.cells #[.int .u8 128] 5)) (w2.heap.size + 1) 1 (some ⟨w2.heap.size, 0, none⟩) 1 (bv [0x80]) := by
    refine ⟨rfl, fun _ => ⟨_, rfl, Nat.lt_succ_self _, fun j u hu => ?_⟩⟩
    rw [at_add, Nat.zero_add, (Blk.new w2 5 #[.int .u8 128]).cell j, ← hu]
    simp [bv]
  have HONE := hide hone
  clear ho2 hg2 hat2 hbb2 hone
  go_wp2_with (at_builtin; (refine wpList_append_any _ rfl (.tmp 6) (.tmp 7) 22 rfl w.heap.size 5 i0 _ 1 1 Tryz.underlying22 hi hz0 hz1 hz2 rfl (by omega) (.slice A2 n c2) n (bv bs) rfl (HO2.out.alloc _) (w2.heap.size + 1) (some ⟨w2.heap.size, 0, none⟩) 1 1 (bv [0x80]) rfl HONE.out (bv_one _) (by unfold maxLen; omega) (by omega) (by simp; omega) ?_))
  intro v3 w3 ho3 hg3 hat3
  have hbb3 : Below w.heap.size w w3 := (HB2.out.alloc hsz2 (.cells #[.int .u8 128] 5)).grown hg3 (by simp; omega) (fun g hg => (HO2.out.lt g hg).1)
  rw [show bv bs ++ bv [0x80] = bv (bs ++ [0x80]) by simp [bv]] at ho3
  obtain ⟨A3, c3, rfl⟩ := own_slice ho3
  have HB3 := hide hbb3
  have HO3 := hide ho3
  obtain ⟨z, hz⟩ : ∃ z, zcount n = z := ⟨_, rfl⟩
  have hz64 : z < 64 := by rw [← hz]; unfold zcount blocksN; omega
  have HM : Hid (∀ k, k ≤ z → ((n + 1 + k) % 64 = 56 ↔ k = z)) := hide (by rw [← hz]; exact fun k h => zcount_mod n k h)
  have HZ := hide hz
  clear ho3 hg3 hat3 hbb3 hz
  go_wp2_with fail
  go_loopw [3] (fun u3 wx => ∃ (k : Nat) (A : Option Addr) (c : Nat), k ≤ z ∧ u3 = .slice A (n + 1 + k) c ∧ wx.ownsRow w.heap.size 5 1 (.slice A (n + 1 + k) c) (n + 1 + k) (bv (bs ++ [0x80] ++ zerosN k)) ∧ Below w.heap.size w wx) (fun u3 _ => n + 1 + z - lenOf0 u3)
  case atStart => exact ⟨0, A3, c3, Nat.zero_le _, rfl, by rw [show zerosN 0 = [] from rfl, List.append_nil]; exact HO3.out, HB3.out⟩
  case round =>
    clear HO3 HB3 HO2 HB2 HONE hE hra
    obtain ⟨k, A4, c4, hk, rfl, ho, hbe⟩ := hrel
    have HO := hide ho
    have HBE := hide hbe
    have hsz := hbe.size
    clear ho hbe
    have hmm := HM.out k hk
    by_cases hkz : k = z
    · have ht : ((((n + 1 + k : Nat) : Int) % 64) != 56) = false := by
        have := hmm.2 hkz
        rw [bne_eq_false_iff_eq]; omega
      have ht2 : ((((n : Int) + 1 + (k : Int)) % 64) != 56) = false := by rw [← ht]; push_cast; rfl
      have HKZ := hide hkz
      have v8 : IntKind.u64.wrap (8 * (n : Int)) = ((8 * n : Nat) : Int) := by simp [IntKind.wrap, IntKind.bits, IntKind.signed]; omega
      clear hmm hkz
      go_wp2_with fail
      refine (rput_yes (8 * n) 8 _ (by omega) (by omega) (by omega)).mono ?_
      rintro e w5 ⟨v5, rfl, ho5, hb5⟩
      obtain ⟨A5, c5, rfl⟩ := own_slice ho5
      have HR5 := hide (Reads.of_own ho5)
      have HO' := hide (own_below HO.out hb5)
      have HB5 := hide (below_more HBE.out (Nat.le_refl _) hb5)
      clear ho5 hb5
      go_wp2_with (at_builtin; (refine wpList_append_any _ rfl (.tmp 16) (.tmp 21) 22 rfl w.heap.size 5 i0 _ 1 1 Tryz.underlying22 hi hz0 hz1 hz2 rfl (by omega) (.slice A4 (n + 1 + k) c4) (n + 1 + k) _ rfl HO'.out w5.heap.size A5 8 c5 (bv (be 8 (8 * n))) rfl HR5.out (bv_one _) (by unfold maxLen; omega) (by omega) HB5.out.size ?_))
      intro v6 w6 ho6 hg6 hat6
      have hbb6 : Below w.heap.size w w6 := HB5.out.grown hg6 HB5.out.size (fun g hg => (HO'.out.lt g hg).1)
      obtain ⟨A6, c6, rfl⟩ := own_slice ho6
      rw [← bv_append] at ho6
      have HO6 := hide ho6
      have HB6 := hide hbb6
      clear ho6 hg6 hat6 hbb6
      go_wp2_with fail
      go_ret
      refine ⟨A6, _, c6, rfl, own_caps HO6.out, ?_, HB6.out⟩
      have e : bs ++ 0x80 :: zerosN k ++ be 8 (8 * n) = padL bs := by
        rw [padL_eq, HL.out, HZ.out, HKZ.out]
      rw [← e]
      exact HO6.out
    · have ht : ((((n + 1 + k : Nat) : Int) % 64) != 56) = true := by
        rw [bne_iff_ne]; intro h; exact hkz (hmm.1 (by omega))
      have ht2 : ((((n : Int) + 1 + (k : Int)) % 64) != 56) = true := by rw [← ht]; push_cast; rfl
      have hone : Reads (wr.alloc (.cells #[.int .u8 0] 5)) (wr.heap.size + 1) 1 (some ⟨wr.heap.size, 0, none⟩) 1 (bv [0]) := by
        refine ⟨rfl, fun _ => ⟨_, rfl, Nat.lt_succ_self _, fun j u hu => ?_⟩⟩
        rw [at_add, Nat.zero_add, (Blk.new wr 5 #[.int .u8 0]).cell j, ← hu]
        simp [bv]
      have HONE := hide hone
      have hkz2 : k < z := by omega
      clear hmm hkz hone
      go_wp2_with (at_builtin; (refine wpList_append_any _ rfl (.tmp 13) (.tmp 14) 22 rfl w.heap.size 5 i0 _ 1 1 Tryz.underlying22 hi hz0 hz1 hz2 rfl (by omega) (.slice A4 (n + 1 + k) c4) (n + 1 + k) _ rfl (HO.out.alloc _) (wr.heap.size + 1) (some ⟨wr.heap.size, 0, none⟩) 1 1 (bv [0]) rfl HONE.out (bv_one _) (by unfold maxLen; omega) (by omega) (by simp; omega) ?_))
      intro v6 w6 ho6 hg6 hat6
      have hbb6 : Below w.heap.size w w6 := (HBE.out.alloc hsz (.cells #[.int .u8 0] 5)).grown hg6 (by simp; omega) (fun g hg => (HO.out.lt g hg).1)
      obtain ⟨A6, c6, rfl⟩ := own_slice ho6
      have HO6 := hide ho6
      have HB6 := hide hbb6
      clear ho6 hg6 hat6 hbb6
      go_wp2_with fail
      clear ht ht2
      go_roundw
      case rel =>
        refine ⟨k + 1, A6, c6, by omega, rfl, ?_, HB6.out⟩
        have h := HO6.out
        have e : bv (bs ++ 0x80 :: zerosN k) ++ bv [0] = bv (bs ++ [0x80] ++ zerosN (k + 1)) := by
          rw [zerosN_add]; simp [bv, zerosN]
        rw [e] at h
        exact h
      case measure => simp [lenOf0]; omega
end Go.Proofs.YtbbobffedgcbhaaGreatDoor
