/- The law's heads. -/
import Derived.Test.YtelfdgliogaleaaDoorShaY
import Derived.Test.YtelfdgliogaleaaDoorRhex
import Derived.Test.YtelfdgliogaleaaDoorSame
import Derived.Outline
import Derived.Lib.SmallJoins
import Derived.Lib.SlBytesConst
namespace Go.Proofs.YtelfdgliogaleaaDoor
open Go.RowKit
set_option linter.unusedVariables false
def abcHex : List UInt8 := [98, 97, 55, 56, 49, 54, 98, 102, 56, 102, 48, 49, 99, 102, 101, 97, 52, 49, 52, 49, 52, 48, 100, 101, 53, 100, 97, 101, 50, 50, 50, 51, 98, 48, 48, 51, 54, 49, 97, 51, 57, 54, 49, 55, 55, 97, 57, 99, 98, 52, 49, 48, 102, 102, 54, 49, 102, 50, 48, 48, 49, 53, 97, 100]
theorem hex_abc : hexL (sumL [97, 98, 99]) = abcHex := by rw [sum_abc]; decide +kernel
theorem FirstAt.below {w w' : World} (h : FirstAt w) (h1 : 1 < w.heap.size) (hb : Below w.heap.size w w') : FirstAt w' := h.keep fun p hp => hb.cell (by omega)
theorem KeysAt.below {w w' : World} (h : KeysAt w) (h1 : 1 < w.heap.size) (hb : Below w.heap.size w w') : KeysAt w' := h.keep fun p hp => hb.cell (by omega)
theorem rd_new (w : World) (bs : List UInt8) (fr : Nat × Nat) : Rd (w.alloc (.cells (bv bs).toArray 5 fr)) (some ⟨w.heap.size, 0, none⟩) bs.length bs := by
  refine ⟨by simp [bv], fun _ => ⟨_, rfl, by simp, fun j u hu => ?_⟩⟩
  rw [at_add, Nat.zero_add, Go.Joins.cell_alloc_mark_at w (bv bs).toArray 5 fr w.heap.size j rfl, ← hu]
  simp
/-- What the program's two tables hold. -/
def Tabs (w : World) : Prop := FirstAt w ∧ KeysAt w ∧ 1 < w.heap.size
theorem Tabs.below {w w' : World} (h : Tabs w) (hb : Below w.heap.size w w') : Tabs w' := ⟨h.1.below h.2.2 hb, h.2.1.below h.2.2 hb, Nat.lt_of_lt_of_le h.2.2 hb.size⟩
theorem Tabs.alloc {w : World} (h : Tabs w) (o : Obj) : Tabs (w.alloc o) := h.below ((Below.refl _ _).alloc (Nat.le_refl _) _)
theorem bl_alloc (w : World) (o : Obj) : Below w.heap.size w (w.alloc o) := (Below.refl _ _).alloc (Nat.le_refl _) _
set_option maxRecDepth 10000 in
set_option maxHeartbeats 4000000 in
theorem heads_any (w : World) (hT : Tabs w) : Calls Tryd.prog 7 #[] w fun e w' => e = .returned (.bool true) ∧ Below w.heap.size w w' := by
  have kc := fun (w : World) (C : Array Value) (n c : Nat) => Lib.run_convert_bytes_const (P := Tryd.prog) w 22 5 C n c Tryd.underlying22 Tryd.underlying5
  have HT := hide hT
  have HX := hide hex_abc
  clear hT
  go_enter Tryd.func7, Tryd.ntmps7
  go_wp2_with fail
  refine (block_no none none 0 0 0 0 _ (by omega)).mono ?_
  rintro e w1 ⟨rfl, rfl⟩
  go_wp2_with fail
  refine (sumc_any (some ⟨w.heap.size, 0, none⟩) 3 3 [97, 98, 99] _ (rd_new w [97, 98, 99] (3, 4)) (by omega) (by omega) (HT.out.alloc _).1 (HT.out.alloc _).2.1 (HT.out.alloc _).2.2).mono ?_
  rintro e w1 ⟨A1, c1, rfl, ho1, hb1⟩
  have HO1 := hide ho1
  have HB1 := hide (below_more (bl_alloc w _) (Nat.le_refl _) hb1)
  clear ho1 hb1
  go_wp2_with fail
  refine (rhex_any A1 32 c1 (sumL [97, 98, 99]) _ (Reads.of_own HO1.out) (by omega)).mono ?_
  rintro e w2 ⟨rfl, hb2⟩
  rw [HX.out]
  have HB2 := hide (below_more HB1.out (Nat.le_refl _) hb2)
  clear hb2
  go_wp2_with fail
  refine (pad_any (some ⟨w2.heap.size, 0, none⟩) 3 3 [97, 98, 99] _ (rd_new w2 [97, 98, 99] (3, 4)) (by omega)).mono ?_
  rintro e w3 ⟨A3, n3, c3, rfl, hc3, ho3, hb3⟩
  have hn3 : n3 = 64 := by have h := ho3.1; rw [bv_length, padL_length] at h; simpa [blocksN] using h.symm
  subst hn3
  have HB3 := hide (below_more (HB2.out.trans ((bl_alloc w2 _).mono HB2.out.size)) (Nat.le_refl _) hb3)
  clear hc3 ho3 hb3
  go_wp2_with fail
  refine (start_any _ (HT.out.below HB3.out).1 (HT.out.below HB3.out).2.2).mono ?_
  rintro e w4 ⟨v4, rfl, g4, rfl, hg4, hs4, hb4⟩
  have HB4 := hide (below_more HB3.out (Nat.le_refl _) hb4)
  have hsz4 : w3.heap.size ≤ w4.heap.size := hb4.size
  clear hs4 hb4
  have kd := Go.Joins.run_convert_bytes_const_at (P := Tryd.prog) (w4.alloc (.cells #[.int .u8 97] 5 (1, 2))) 22 5 #[.int .u8 98, .int .u8 99] 2 2 (w4.heap.size + 1) (by simp) Tryd.underlying22 Tryd.underlying5
  go_wp2_with fail
  have hr1 : Rd ((w4.alloc (.cells (bv [97]).toArray 5 (1, 2))).alloc (.cells (bv [98, 99]).toArray 5 (2, 3))) (some ⟨w4.heap.size, 0, none⟩) 1 [97] := Reads.more (Reads.alloc (rd_new w4 [97] (1, 2)) (Nat.le_refl _) _) (by simp)
  have hr2 : Rd ((w4.alloc (.cells (bv [97]).toArray 5 (1, 2))).alloc (.cells (bv [98, 99]).toArray 5 (2, 3))) (some ⟨w4.heap.size + 1, 0, none⟩) 2 [98, 99] := by
    have h := rd_new (w4.alloc (.cells (bv [97]).toArray 5 (1, 2))) [98, 99] (2, 3)
    rwa [show (w4.alloc (.cells (bv [97]).toArray 5 (1, 2))).heap.size = w4.heap.size + 1 by simp] at h
  have hT5 := ((HT.out.below HB4.out).alloc (.cells (bv [97]).toArray 5 (1, 2))).alloc (.cells (bv [98, 99]).toArray 5 (2, 3))
  have hB5 : Below w.heap.size w ((w4.alloc (.cells (bv [97]).toArray 5 (1, 2))).alloc (.cells (bv [98, 99]).toArray 5 (2, 3))) := (HB4.out.alloc HB4.out.size _).alloc (by have := HB4.out.size; simp; omega) _
  refine (chain_any (some ⟨w4.heap.size, 0, none⟩) (some ⟨w4.heap.size + 1, 0, none⟩) 1 1 2 2 [97] [98, 99] _ hr1 (by omega) (by omega) hr2 (by omega) (by omega) hT5.1 hT5.2.1 hT5.2.2).mono ?_
  rintro e w5 ⟨A5, c5, rfl, ho5, hb5⟩
  have HO5 := hide ho5
  have HB5 := hide (below_more hB5 (Nat.le_refl _) hb5)
  clear hr1 hr2 hT5 hB5 ho5 hb5 kd
  go_wp2_with fail
  have hT6 := (HT.out.below HB5.out).alloc (.cells (bv [97, 98, 99]).toArray 5 (3, 4))
  refine (sumc_any (some ⟨w5.heap.size, 0, none⟩) 3 3 [97, 98, 99] _ (rd_new w5 [97, 98, 99] (3, 4)) (by omega) (by omega) hT6.1 hT6.2.1 hT6.2.2).mono ?_
  rintro e w6 ⟨A6, c6, rfl, ho6, hb6⟩
  have HO6 := hide ho6
  have HO5' := hide (own_below HO5.out ((bl_alloc w5 (.cells (bv [97, 98, 99]).toArray 5 (3, 4))).trans (hb6.mono (by simp))))
  have HB6 := hide (below_more (HB5.out.alloc HB5.out.size (.cells (bv [97, 98, 99]).toArray 5 (3, 4))) (Nat.le_refl _) hb6)
  clear hT6 ho6 hb6
  go_wp2_with fail
  refine (same_any A5 A6 32 32 c5 c6 (sumL ([97] ++ [98, 99])) (sumL [97, 98, 99]) _ _ _ (Reads.of_own HO5'.out) (Reads.of_own HO6.out)).mono ?_
  rintro e w7 ⟨rfl, rfl⟩
  rw [show (sumL ([97] ++ [98, 99]) == sumL [97, 98, 99]) = true from beq_self_eq_true (sumL [97, 98, 99])]
  go_wp2_with fail
  go_ret
  exact ⟨rfl, HB6.out⟩
end Go.Proofs.YtelfdgliogaleaaDoor
