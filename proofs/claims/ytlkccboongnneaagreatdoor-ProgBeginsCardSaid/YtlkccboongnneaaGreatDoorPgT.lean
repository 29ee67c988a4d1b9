/- A child in a box: what a write and a read do. -/
import Derived.Test.YtlkccboongnneaaGreatDoorPgR
namespace Go.Proofs.YtlkccboongnneaaGreatDoor
open Go.RowKit
set_option linter.unusedVariables false
set_option maxHeartbeats 1000000 in
theorem replaceAll_any (a b : UInt8) (ad : Addr) (n c b1 b2 : Nat) (bs : Bs) (w : World) (hR : Reads w w.heap.size 1 (some ad) n (bv bs)) (h1 : 1 ≤ n) (hn : n ≤ 400000) (hc : n ≤ c)
    (q1 : w.cell? ⟨b1, 0, none⟩ = some (.int .u8 (a.toNat : Int))) (q2 : w.cell? ⟨b2, 0, none⟩ = some (.int .u8 (b.toNat : Int))) (hb1 : b1 < w.heap.size) (hb2 : b2 < w.heap.size) :
    Calls Tryz.prog 51 #[.slice (some ad) n c, .slice (some ⟨b1, 0, none⟩) 1 1, .slice (some ⟨b2, 0, none⟩) 1 1] w fun e w' => ∃ D dc, e = .returned (.slice D n dc) ∧ Od w.heap.size w' D n dc (swap a b bs) ∧ Below w.heap.size w w' := by
  have X := hide (replace_any a b ad n c b1 b2 bs w hR h1 hn hc q1 q2 hb1 hb2)
  clear hR q1 q2
  go_enter Tryz.func51, Tryz.ntmps51
  go_wp2_with fail
  refine X.out.mono ?_
  rintro e w1 ⟨D, dc, rfl, hO, hb⟩
  have HO := hide hO
  have HB := hide hb
  clear hO hb X
  go_wp2_with fail
  go_ret
  exact ⟨D, dc, rfl, HO.out, HB.out⟩
theorem wroteP_some {p : PR} {n : Nat} {l : Bs} (h : p.buf.drop n = l) (h0 : l ≠ []) : wroteP p n = { p with buf := l } := by unfold wroteP; rw [h, if_pos h0]
theorem wroteP_last {p : PR} {n : Nat} (h : p.buf.drop n = []) (h3 : p.phase = 3) : wroteP p n = { p with buf := [], phase := 4 } := by unfold wroteP; rw [h, if_neg (by simp), if_pos h3]
theorem wroteP_more {p : PR} {n : Nat} (h : p.buf.drop n = []) (h3 : p.phase ≠ 3) : wroteP p n = { p with buf := [], phase := 1 } := by unfold wroteP; rw [h, if_neg (by simp), if_neg h3]
set_option maxRecDepth 100000 in
set_option maxHeartbeats 4000000 in
theorem wrote_any (B g : Nat) (p : PR) (s : PS) (n : Nat) (w : World) (h : RunAt B g p s w) (hl : p.buf.length ≤ 500000) (hn : n ≤ 1000000) (hB : B ≤ w.heap.size) (hy : p.prog ≠ nYes) :
    Calls Tryz.prog 29 #[.pointer (some ⟨g, 0, none⟩), .int .i64 0, .int .i64 (n : Int)] w fun e w' => e = .returned (.tuple #[]) ∧ (∃ s', RunAt B g (wroteP p n) s' w') ∧ Below B w w' := by
  have hle := h.le
  have hdn := h.dn
  have hod := h.own.d
  have H0 := hide h
  have HY := hide hy
  clear h hy
  obtain ⟨A, an, ac, E, en, ec, F, fn, fc, D, dn, dc⟩ := s
  dsimp only at hdn hod
  obtain ⟨⟨c0, c1, c2, c3, c4, c5, c6, c7, c8, c9⟩, f0, f1, f2, f3, f4, f5, f6, f7, f8, f9⟩ := ten H0.out.blk
  dsimp only at c9
  have hmx : max (n : Int) 0 = n := by omega
  obtain ⟨N, hN⟩ : ∃ N, min n dn = N := ⟨_, rfl⟩
  have hmn : min (n : Int) (dn : Int) = (N : Int) := by omega
  obtain ⟨r, hr⟩ : ∃ r, dn - N = r := ⟨_, rfl⟩
  obtain ⟨cq, hcq⟩ : ∃ r, dc - N = r := ⟨_, rfl⟩
  have hdc := hod.le
  have hsA := fun W => run_slice_from (P := Tryz.prog) 24 5 Tryz.underlying24 sizeU8 D dn dc .i64 (N : Int) (by omega) (by omega) W
  simp only [Int.toNat_natCast] at hsA
  rw [hr, hcq] at hsA
  obtain ⟨DA, hDA⟩ : ∃ E, (if dc = N then D else D.map (·.add N)) = E := ⟨_, rfl⟩
  rw [hDA] at hsA
  have hrd := Reads.drop_ hod.rd hdc (l := N) (by omega)
  rw [hDA, hr, ← bv_drop, show p.buf.drop N = p.buf.drop n from by
    rcases Nat.lt_or_ge n dn with hh | hh
    · rw [show N = n from by omega]
    · rw [List.drop_eq_nil_of_le (by omega), List.drop_eq_nil_of_le (by omega)]] at hrd
  obtain ⟨l, hl2⟩ : ∃ l, p.buf.drop n = l := ⟨_, rfl⟩
  rw [hl2] at hrd
  have HLD := hide hl2
  have hll : l.length = r := by have := hrd.1; simp [bv] at this; exact this
  have XC := hide (Dk.list_any DA r cq l w.drew hrd (by omega))
  have hr5 : r ≤ 1000000 := by omega
  have HLL := hide hll
  clear hN hr hcq hDA hrd hl2 hll hod hdn hdc
  go_enter Tryz.func29, Tryz.ntmps29
  go_wp2_with fail
  refine wp_region_K (fun V => V.cell? ⟨g, 9, none⟩ = some (.slice D dn dc)) [20] rfl c9 (fun hHeld => ?_)
  refine wpAnyK_take (i := 1) (v := ?_) rfl rfl (by kernel_rfl) (fun _ _ _ h => h) (Or.inl ⟨by rfl, ?_⟩) (by assumption) ?_
  rotate_left
  · (intro V hV; (try dsimp only at hV); go_simp; with_reducible rfl)
  try simp only [Act.put, List.setIfInBounds_toArray, List.set_cons_zero, List.set_cons_succ]
  refine wpAnyK_take (i := 2) (v := ?_) rfl rfl (by kernel_rfl) (fun _ _ _ h => h) (Or.inl ⟨by rfl, ?_⟩) (by assumption) ?_
  rotate_left
  · (intro V hV; (try dsimp only at hV); go_simp; with_reducible rfl)
  try simp only [Act.put, List.setIfInBounds_toArray, List.set_cons_zero, List.set_cons_succ]
  refine wpAnyK_take (i := 3) (v := ?_) rfl rfl (by kernel_rfl) (fun _ _ _ h => h) (Or.inl ⟨by rfl, ?_⟩) (by assumption) ?_
  rotate_left
  · (intro V hV; (try dsimp only at hV); go_simp; with_reducible rfl)
  try simp only [Act.put, List.setIfInBounds_toArray, List.set_cons_zero, List.set_cons_succ]
  refine wpAnyK_take (i := 4) (v := ?_) rfl rfl (by kernel_rfl) (fun _ _ _ h => h) (Or.inl ⟨by rfl, ?_⟩) (by assumption) ?_
  rotate_left
  · (intro V hV; (try dsimp only at hV); go_simp; with_reducible rfl)
  try simp only [Act.put, List.setIfInBounds_toArray, List.set_cons_zero, List.set_cons_succ]
  refine wpAnyK_take (i := 5) (v := ?_) rfl rfl (by kernel_rfl) (fun _ _ _ h => h) (Or.inl ⟨by rfl, ?_⟩) (by assumption) ?_
  rotate_left
  · (intro V hV; (try dsimp only at hV); go_simp; with_reducible rfl)
  try simp only [Act.put, List.setIfInBounds_toArray, List.set_cons_zero, List.set_cons_succ]
  refine wpAnyK_take (i := 8) (v := ?_) rfl rfl (by kernel_rfl) (fun _ _ _ h => h) (Or.inl ⟨by rfl, ?_⟩) (by assumption) ?_
  rotate_left
  · (intro V hV; (try dsimp only at hV); go_simp; with_reducible rfl)
  try simp only [Act.put, List.setIfInBounds_toArray, List.set_cons_zero, List.set_cons_succ]
  refine wpAnyK_take (i := 9) (v := ?_) rfl rfl (by kernel_rfl) (fun _ _ _ h => h) (Or.inl ⟨by rfl, ?_⟩) (by assumption) ?_
  rotate_left
  · (intro V hV; (try dsimp only at hV); go_simp; with_reducible rfl)
  try simp only [Act.put, List.setIfInBounds_toArray, List.set_cons_zero, List.set_cons_succ]
  refine wpAnyK_take (i := 10) (v := ?_) rfl rfl (by kernel_rfl) (fun _ _ _ h => h) (Or.inl ⟨by rfl, ?_⟩) (by assumption) ?_
  rotate_left
  · (intro V hV; (try dsimp only at hV); go_simp; with_reducible rfl)
  try simp only [Act.put, List.setIfInBounds_toArray, List.set_cons_zero, List.set_cons_succ]
  refine wpAnyK_take (i := 11) (v := ?_) rfl rfl (by kernel_rfl) (fun _ _ _ h => h) (Or.inl ⟨by rfl, ?_⟩) (by assumption) ?_
  rotate_left
  · (intro V hV; (try dsimp only at hV); go_simp; with_reducible rfl)
  try simp only [Act.put, List.setIfInBounds_toArray, List.set_cons_zero, List.set_cons_succ]
  refine wpAnyK_take (i := 12) (v := ?_) rfl rfl (by kernel_rfl) (fun _ _ _ h => h) (Or.inl ⟨by rfl, ?_⟩) (by assumption) ?_
  rotate_left
  · (intro V hV; (try dsimp only at hV); go_simp; with_reducible rfl)
  try simp only [Act.put, List.setIfInBounds_toArray, List.set_cons_zero, List.set_cons_succ]
  refine wpAnyK_take (i := 13) (v := ?_) rfl rfl (by kernel_rfl) (fun _ _ _ h => h) (Or.inl ⟨by rfl, ?_⟩) (by assumption) ?_
  rotate_left
  · (intro V hV; (try dsimp only at hV); go_simp; with_reducible rfl)
  try simp only [Act.put, List.setIfInBounds_toArray, List.set_cons_zero, List.set_cons_succ]
  refine wpAnyK_take (i := 0) (v := ?_) rfl rfl (by kernel_rfl) (fun _ _ _ h => h) (Or.inl ⟨by rfl, ?_⟩) (by assumption) ?_
  rotate_left
  · (intro V hV; (try dsimp only at hV); go_simp; with_reducible rfl)
  try simp only [Act.put, List.setIfInBounds_toArray, List.set_cons_zero, List.set_cons_succ]
  refine wpAnyK_take (i := 6) (v := ?_) rfl rfl (by kernel_rfl) (fun _ _ _ h => h) (Or.inl ⟨by rfl, ?_⟩) (by assumption) ?_
  rotate_left
  · (intro V hV; (try dsimp only at hV); go_simp; with_reducible rfl)
  try simp only [Act.put, List.setIfInBounds_toArray, List.set_cons_zero, List.set_cons_succ]
  refine wpAnyK_take (i := 7) (v := ?_) rfl rfl (by kernel_rfl) (fun _ _ _ h => h) (Or.inl ⟨by rfl, ?_⟩) (by assumption) ?_
  rotate_left
  · (intro V hV; (try dsimp only at hV); go_simp; with_reducible rfl)
  try simp only [Act.put, List.setIfInBounds_toArray, List.set_cons_zero, List.set_cons_succ]
  refine wpAnyK_take (i := 14) (v := ?_) rfl rfl (by kernel_rfl) (fun _ _ _ h => h) (Or.inl ⟨by rfl, ?_⟩) (by assumption) ?_
  rotate_left
  · (intro V hV; (try dsimp only at hV); go_simp; with_reducible rfl)
  try simp only [Act.put, List.setIfInBounds_toArray, List.set_cons_zero, List.set_cons_succ]
  refine wpAnyK_take (i := 15) (v := ?_) rfl rfl (by kernel_rfl) (fun _ _ _ h => h) (Or.inl ⟨by rfl, ?_⟩) (by assumption) ?_
  rotate_left
  · (intro V hV; (try dsimp only at hV); go_simp; with_reducible rfl)
  try simp only [Act.put, List.setIfInBounds_toArray, List.set_cons_zero, List.set_cons_succ]
  refine wpAnyK_step (i := 16) (by kernel_rfl) rfl rfl (fun K hK => ?_)
  go_simp
  refine XC.out.mono ?_
  rintro e w2 ⟨D', c', rfl, ho, hb⟩
  have H2 := hide ((H0.out.below ((Below.refl w.heap.size w).drew)).below hb)
  have HB2 : Hid (Below B w w2) := hide ((Below.refl B w).drew.trans (hb.mono hB))
  have HO := hide (Od.more (Od.of ho) hB)
  have d9 := H2.out.blk.cell 9
  simp only [List.getElem?_toArray, List.getElem?_cons_succ, List.getElem?_cons_zero] at d9
  refine hK.out _ _ (fun _ _ => d9) ?_
  clear hK K hHeld ho hb XC c0 c1 c2 c3 c4 c5 c6 c7 c8 c9 f0 f1 f2 f3 f4 f5 f6 f7 f8 f9 H0 d9
  simp only [List.setIfInBounds_toArray]
  obtain ⟨⟨c0, c1, c2, c3, c4, c5, c6, c7, c8, c9⟩, f0, f1, f2, f3, f4, f5, f6, f7, f8, f9⟩ := ten H2.out.blk
  dsimp only at c9
  refine wpAnyK_takeF (i := 17) (v := ?_) rfl rfl (by kernel_rfl) (fun _ _ _ h => h) (Or.inl ⟨by rfl, ?_⟩) ?_
  rotate_left
  · (intro V hV; go_simp; with_reducible rfl)
  try simp only [Act.put, List.setIfInBounds_toArray, List.set_cons_zero, List.set_cons_succ]
  refine wpAnyK_takeF (i := 18) (v := ?_) rfl rfl (by kernel_rfl) (fun _ _ _ h => h) (Or.inl ⟨by rfl, ?_⟩) ?_
  rotate_left
  · (intro V hV; go_simp; with_reducible rfl)
  try simp only [Act.put, List.setIfInBounds_toArray, List.set_cons_zero, List.set_cons_succ]
  refine wpAnyK_takeF (i := 19) (v := ?_) rfl rfl (by kernel_rfl) (fun _ _ _ h => h) (Or.inl ⟨by rfl, ?_⟩) ?_
  rotate_left
  · (intro V hV; go_simp; with_reducible rfl)
  try simp only [Act.put, List.setIfInBounds_toArray, List.set_cons_zero, List.set_cons_succ]
  refine wpAnyK_step (i := 20) (by kernel_rfl) rfl rfl (fun K hK => ?_)
  go_simp
  refine hK.out _ _ (fun _ h => absurd (by decide) h) ?_
  clear hK K
  simp only [List.setIfInBounds_toArray]
  refine wpAnyK_done (by kernel_rfl) ?_ _
  (try simp only [Exit.then])
  go_at_K
  by_cases h0 : r = 0
  · subst h0
    obtain rfl := List.eq_nil_of_length_eq_zero HLL.out
    by_cases h3 : p.phase = 3
    · have HW := hide (wroteP_last HLD.out h3)
      have c7' := c7
      rw [h3] at c7'
      clear h3 c7
      go_wp2_with fail
      go_end0
      refine ⟨rfl, ?_, (HB2.out.setCell (by exact hle) _).setCell (by exact hle) _⟩
      rw [HW.out]
      exact ⟨_, (H2.out.bf HO.out).ph 4⟩
    · have HW := hide (wroteP_more HLD.out h3)
      have h3b : (p.phase == 3) = false := beq_eq_false_iff_ne.2 h3
      have hyb : (p.prog == [121, 101, 115]) = false := by simpa [nYes] using HY.out
      clear h3
      go_wp2_with fail
      go_end0
      refine ⟨rfl, ?_, (HB2.out.setCell (by exact hle) _).setCell (by exact hle) _⟩
      rw [HW.out]
      exact ⟨_, (H2.out.bf HO.out).ph 1⟩
  · have hr0 : (0 : Int) < (r : Int) := by omega
    have HW := hide (wroteP_some HLD.out (by intro e; have := HLL.out; rw [e] at this; simp at this; omega))
    go_wp2_with fail
    go_end0
    refine ⟨rfl, ?_, HB2.out.setCell (by exact hle) _⟩
    rw [HW.out]
    exact ⟨_, H2.out.bf HO.out⟩
end Go.Proofs.YtlkccboongnneaaGreatDoor
