/- The contract of (*scanner).add. -/
import Derived.Test.YtpfcfcbljkdkhaaDoorLexT
import Derived.Deep.RegionLaw
import Derived.Test.YtpfcfcbljkdkhaaDoorMem
namespace Go.Proofs.YtpfcfcbljkdkhaaDoor
open Go.RowKit
set_option linter.unusedVariables false
set_option maxRecDepth 100000 in
set_option maxHeartbeats 8000000 in
theorem add_any (B g : Nat) (p : LB) (s : S) (k n : Nat) (w : World) (hp : p.length ≤ 100000) (hk : k ≤ 5) (hn : s.at_ + n ≤ p.length) (hl : s.toks.length ≤ 100000) (hB : B ≤ w.heap.size) (h : ScAt B w g p s) :
    Calls Tryd.prog 18 #[.pointer (some ⟨g, 0, none⟩), .int .i64 (k : Int), .int .i64 (n : Int)] w fun e w' => e = .returned (.tuple #[]) ∧ ScAt B w' g p (addS p s k n) ∧ Below B w w' := by
  obtain ⟨A, m, c, A', m', c', hS⟩ := h
  have hm := hS.2.1.len
  have hmb : m ≤ 100000 := by omega
  obtain ⟨i0, hi, hz0, hz1, hz2⟩ := info_parts infoTok
  obtain ⟨⟨c0, c1, c2, c3, c4⟩, f0, f1, f2, f3, f4⟩ := hS.cells
  have hgl := hS.lt
  have hBg := hS.2.2.2
  obtain ⟨a, ha⟩ : ∃ a, s.at_ = a := ⟨_, rfl⟩
  have HA := hide ha
  rw [ha] at hn c1
  clear ha
  have hsl : ∀ W, (Instr.slice 9 (.string ⟨p.toArray⟩) (some (.int .i64 (a : Int))) (some (.int .i64 ((a : Int) + (n : Int)))) none).run Tryd.prog W = .ok (.string ⟨((p.drop a).take n).toArray⟩) W := by
    have := sl_two p a (a + n) a ((a : Int) + (n : Int)) rfl (by omega) (by omega) hn
    rwa [Nat.add_sub_cancel_left] at this
  have hwr : IntKind.i64.wrap ((a : Int) + (n : Int)) = (a : Int) + (n : Int) := by simp [IntKind.wrap, IntKind.bits, IntKind.signed]; omega
  have hb0 : (0 : Int) ≤ (a : Int) + (n : Int) := by omega
  have hb1 : (a : Int) + (n : Int) ≤ (p.length : Int) := by omega
  have hb2 : (a : Int) ≤ (a : Int) + (n : Int) := by omega
  have hS' := hide hS
  clear hS
  have HM := hide hm
  clear hm
  have hown := hS'.out.2.1
  have hown1 := (World.ownsRow.alloc hown (.cells #[.int .i64 (k : Int), .string ⟨((p.drop a).take n).toArray⟩, .int .i64 (a : Int), .string ⟨#[]⟩, .bool false] 37))
  have hrd := one_tok w ⟨k, (p.drop a).take n, a, [], false⟩
  have HO := hide hown1
  have HR := hide hrd
  clear hown hown1 hrd
  go_enter Tryd.func18, Tryd.ntmps18
  go_wp2_with fail
  refine wp_region_M (fun V => V.cell? ⟨g, 0, none⟩ = some (.string ⟨p.toArray⟩) ∧ V.cell? ⟨g, 1, none⟩ = some (.int .i64 (a : Int)) ∧ V.cell? ⟨g, 2, none⟩ = some (.slice A m c)) 30 rfl ⟨c0, c1, c2⟩ (fun hHeld => ?_)
  refine wpAnyM_take (i := 0) (v := ?_) rfl rfl (by kernel_rfl) (fun _ _ _ h => h) (Or.inl ⟨by rfl, ?_⟩) (by assumption) ?_
  rotate_left
  · (intro V hV; (try dsimp only at hV); go_simp; with_reducible rfl)
  try simp only [Act.put, List.setIfInBounds_toArray, List.set_cons_zero, List.set_cons_succ]
  refine wpAnyM_take (i := 1) (v := ?_) rfl rfl (by kernel_rfl) (fun _ _ _ h => h) (Or.inl ⟨by rfl, ?_⟩) (by assumption) ?_
  rotate_left
  · (intro V hV; (try dsimp only at hV); go_simp; with_reducible rfl)
  try simp only [Act.put, List.setIfInBounds_toArray, List.set_cons_zero, List.set_cons_succ]
  refine wpAnyM_take (i := 2) (v := ?_) rfl rfl (by kernel_rfl) (fun _ _ _ h => h) (Or.inl ⟨by rfl, ?_⟩) (by assumption) ?_
  rotate_left
  · (intro V hV; (try dsimp only at hV); go_simp; with_reducible rfl)
  try simp only [Act.put, List.setIfInBounds_toArray, List.set_cons_zero, List.set_cons_succ]
  refine wpAnyM_take (i := 3) (v := ?_) rfl rfl (by kernel_rfl) (fun _ _ _ h => h) (Or.inl ⟨by rfl, ?_⟩) (by assumption) ?_
  rotate_left
  · (intro V hV; (try dsimp only at hV); go_simp; with_reducible rfl)
  try simp only [Act.put, List.setIfInBounds_toArray, List.set_cons_zero, List.set_cons_succ]
  refine wpAnyM_take (i := 4) (v := ?_) rfl rfl (by kernel_rfl) (fun _ _ _ h => h) (Or.inl ⟨by rfl, ?_⟩) (by assumption) ?_
  rotate_left
  · (intro V hV; (try dsimp only at hV); go_simp; with_reducible rfl)
  try simp only [Act.put, List.setIfInBounds_toArray, List.set_cons_zero, List.set_cons_succ]
  refine wpAnyM_take (i := 5) (v := ?_) rfl rfl (by kernel_rfl) (fun _ _ _ h => h) (Or.inl ⟨by rfl, ?_⟩) (by assumption) ?_
  rotate_left
  · (intro V hV; (try dsimp only at hV); go_simp; with_reducible rfl)
  try simp only [Act.put, List.setIfInBounds_toArray, List.set_cons_zero, List.set_cons_succ]
  refine wpAnyM_take (i := 6) (v := ?_) rfl rfl (by kernel_rfl) (fun _ _ _ h => h) (Or.inl ⟨by rfl, ?_⟩) (by assumption) ?_
  rotate_left
  · (intro V hV; (try dsimp only at hV); go_simp; with_reducible rfl)
  try simp only [Act.put, List.setIfInBounds_toArray, List.set_cons_zero, List.set_cons_succ]
  refine wpAnyM_take (i := 7) (v := ?_) rfl rfl (by kernel_rfl) (fun _ _ _ h => h) (Or.inl ⟨by rfl, ?_⟩) (by assumption) ?_
  rotate_left
  · (intro V hV; (try dsimp only at hV); go_simp; with_reducible rfl)
  try simp only [Act.put, List.setIfInBounds_toArray, List.set_cons_zero, List.set_cons_succ]
  refine wpAnyM_take (i := 8) (v := ?_) rfl rfl (by kernel_rfl) (fun _ _ _ h => h) (Or.inl ⟨by rfl, ?_⟩) (by assumption) ?_
  rotate_left
  · (intro V hV; (try dsimp only at hV); go_simp; with_reducible rfl)
  try simp only [Act.put, List.setIfInBounds_toArray, List.set_cons_zero, List.set_cons_succ]
  refine wpAnyM_take (i := 9) (v := ?_) rfl rfl (by kernel_rfl) (fun _ _ _ h => h) (Or.inl ⟨by rfl, ?_⟩) (by assumption) ?_
  rotate_left
  · (intro V hV; (try dsimp only at hV); go_simp; with_reducible rfl)
  try simp only [Act.put, List.setIfInBounds_toArray, List.set_cons_zero, List.set_cons_succ]
  refine wpAnyM_take (i := 10) (v := ?_) rfl rfl (by kernel_rfl) (fun _ _ _ h => h) (Or.inl ⟨by rfl, ?_⟩) (by assumption) ?_
  rotate_left
  · (intro V hV; (try dsimp only at hV); go_simp; with_reducible rfl)
  try simp only [Act.put, List.setIfInBounds_toArray, List.set_cons_zero, List.set_cons_succ]
  refine wpAnyM_take (i := 11) (v := ?_) rfl rfl (by kernel_rfl) (fun _ _ _ h => h) (Or.inl ⟨by rfl, ?_⟩) (by assumption) ?_
  rotate_left
  · (intro V hV; (try dsimp only at hV); go_simp; with_reducible rfl)
  try simp only [Act.put, List.setIfInBounds_toArray, List.set_cons_zero, List.set_cons_succ]
  refine wpAnyM_take (i := 12) (v := ?_) rfl rfl (by kernel_rfl) (fun _ _ _ h => h) (Or.inl ⟨by rfl, ?_⟩) (by assumption) ?_
  rotate_left
  · (intro V hV; (try dsimp only at hV); go_simp; with_reducible rfl)
  try simp only [Act.put, List.setIfInBounds_toArray, List.set_cons_zero, List.set_cons_succ]
  refine wpAnyM_take (i := 13) (v := ?_) rfl rfl (by kernel_rfl) (fun _ _ _ h => h) (Or.inl ⟨by rfl, ?_⟩) (by assumption) ?_
  rotate_left
  · (intro V hV; (try dsimp only at hV); go_simp; with_reducible rfl)
  try simp only [Act.put, List.setIfInBounds_toArray, List.set_cons_zero, List.set_cons_succ]
  refine wpAnyM_take (i := 14) (v := ?_) rfl rfl (by kernel_rfl) (fun _ _ _ h => h) (Or.inl ⟨by rfl, ?_⟩) (by assumption) ?_
  rotate_left
  · (intro V hV; (try dsimp only at hV); go_simp; with_reducible rfl)
  try simp only [Act.put, List.setIfInBounds_toArray, List.set_cons_zero, List.set_cons_succ]
  refine wpAnyM_take (i := 15) (v := ?_) rfl rfl (by kernel_rfl) (fun _ _ _ h => h) (Or.inl ⟨by rfl, ?_⟩) (by assumption) ?_
  rotate_left
  · (intro V hV; (try dsimp only at hV); go_simp; with_reducible rfl)
  try simp only [Act.put, List.setIfInBounds_toArray, List.set_cons_zero, List.set_cons_succ]
  refine wpAnyM_take (i := 16) (v := ?_) rfl rfl (by kernel_rfl) (fun _ _ _ h => h) (Or.inl ⟨by rfl, ?_⟩) (by assumption) ?_
  rotate_left
  · (intro V hV; (try dsimp only at hV); go_simp; with_reducible rfl)
  try simp only [Act.put, List.setIfInBounds_toArray, List.set_cons_zero, List.set_cons_succ]
  refine wpAnyM_take (i := 17) (v := ?_) rfl rfl (by kernel_rfl) (fun _ _ _ h => h) (Or.inl ⟨by rfl, ?_⟩) (by assumption) ?_
  rotate_left
  · (intro V hV; (try dsimp only at hV); go_simp; with_reducible rfl)
  try simp only [Act.put, List.setIfInBounds_toArray, List.set_cons_zero, List.set_cons_succ]
  refine wpAnyM_take (i := 18) (v := ?_) rfl rfl (by kernel_rfl) (fun _ _ _ h => h) (Or.inl ⟨by rfl, ?_⟩) (by assumption) ?_
  rotate_left
  · (intro V hV; (try dsimp only at hV); go_simp; with_reducible rfl)
  try simp only [Act.put, List.setIfInBounds_toArray, List.set_cons_zero, List.set_cons_succ]
  refine wpAnyM_take (i := 19) (v := ?_) rfl rfl (by kernel_rfl) (fun _ _ _ h => h) (Or.inl ⟨by rfl, ?_⟩) (by assumption) ?_
  rotate_left
  · (intro V hV; (try dsimp only at hV); go_simp; with_reducible rfl)
  try simp only [Act.put, List.setIfInBounds_toArray, List.set_cons_zero, List.set_cons_succ]
  refine wpAnyM_take (i := 20) (v := ?_) rfl rfl (by kernel_rfl) (fun _ _ _ h => h) (Or.inl ⟨by rfl, ?_⟩) (by assumption) ?_
  rotate_left
  · (intro V hV; (try dsimp only at hV); go_simp; with_reducible rfl)
  try simp only [Act.put, List.setIfInBounds_toArray, List.set_cons_zero, List.set_cons_succ]
  refine wpAnyM_take (i := 21) (v := ?_) rfl rfl (by kernel_rfl) (fun _ _ _ h => h) (Or.inl ⟨by rfl, ?_⟩) (by assumption) ?_
  rotate_left
  · (intro V hV; (try dsimp only at hV); go_simp; with_reducible rfl)
  try simp only [Act.put, List.setIfInBounds_toArray, List.set_cons_zero, List.set_cons_succ]
  refine wpAnyM_take (i := 22) (v := ?_) rfl rfl (by kernel_rfl) (fun _ _ _ h => h) (Or.inl ⟨by rfl, ?_⟩) (by assumption) ?_
  rotate_left
  · (intro V hV; (try dsimp only at hV); go_simp; with_reducible rfl)
  try simp only [Act.put, List.setIfInBounds_toArray, List.set_cons_zero, List.set_cons_succ]
  refine wpAnyM_take (i := 23) (v := ?_) rfl rfl (by kernel_rfl) (fun _ _ _ h => h) (Or.inl ⟨by rfl, ?_⟩) (by assumption) ?_
  rotate_left
  · (intro V hV; (try dsimp only at hV); go_simp; with_reducible rfl)
  try simp only [Act.put, List.setIfInBounds_toArray, List.set_cons_zero, List.set_cons_succ]
  refine wpAnyM_take (i := 24) (v := ?_) rfl rfl (by kernel_rfl) (fun _ _ _ h => h) (Or.inl ⟨by rfl, ?_⟩) (by assumption) ?_
  rotate_left
  · (intro V hV; (try dsimp only at hV); go_simp; with_reducible rfl)
  try simp only [Act.put, List.setIfInBounds_toArray, List.set_cons_zero, List.set_cons_succ]
  refine wpAnyM_take (i := 25) (v := ?_) rfl rfl (by kernel_rfl) (fun _ _ _ h => h) (Or.inl ⟨by rfl, ?_⟩) (by assumption) ?_
  rotate_left
  · (intro V hV; (try dsimp only at hV); go_simp; with_reducible rfl)
  try simp only [Act.put, List.setIfInBounds_toArray, List.set_cons_zero, List.set_cons_succ]
  refine wpAnyM_step (i := 26) (by kernel_rfl) rfl rfl (fun K hK => ?_)
  go_simp
  refine hK.out _ _ (fun _ => ⟨?_, ?_, ?_⟩) ?_
  · exact (World.cell?_alloc_lt _ _ _ (by exact hgl)).trans c0
  · exact (World.cell?_alloc_lt _ _ _ (by exact hgl)).trans c1
  · exact (World.cell?_alloc_lt _ _ _ (by exact hgl)).trans c2
  clear hK K hHeld
  simp only [List.setIfInBounds_toArray]
  refine wpAnyM_step (i := 27) (by kernel_rfl) rfl rfl (fun K hK => ?_)
  refine step_append_any _ rfl (.tmp 10) (.tmp 32) 23 rfl B 37 i0 _ 5 56 Tryd.underlying23 hi hz0 hz1 hz2 rfl (by omega) (.slice A m c) m (tvs s.toks) rfl (by exact HO.out) (w.heap.size + 1) (some ⟨w.heap.size, 0, none⟩) 1 1 (tvs [⟨k, (p.drop a).take n, a, [], false⟩]) rfl (by exact HR.out) (tvs_one _) (by unfold maxLen; omega) (by omega) (by simp; omega) ?_
  intro v1 W2 hown2 hg2 hat2
  obtain ⟨A2, x2, rfl⟩ := own_slice hown2
  have hne := Ne.symm (own_blk_ne (by exact hS'.out.2.1) hS'.out.1 (by decide))
  have hP2 := Blk.grown (h := (by exact hS'.out.1.alloc (.cells #[.int .i64 (k : Int), .string ⟨((p.drop a).take n).toArray⟩, .int .i64 (a : Int), .string ⟨#[]⟩, .bool false] 37))) (hb := hg2) hne
  have HP2 := hide hP2
  have hy2 : g < W2.heap.size := hP2.lt
  obtain ⟨⟨d0, d1, d2, d3, d4⟩, e0, e1, e2, e3, e4⟩ := hP2.five
  rw [HA.out] at d1
  refine hK.out _ _ (fun _ => ⟨d0, d1, d2⟩) ?_
  have HG2 : Hid ((w.alloc (.cells #[.int .i64 (k : Int), .string ⟨((p.drop a).take n).toArray⟩, .int .i64 (a : Int), .string ⟨#[]⟩, .bool false] 37)).grownBy W2 (Value.slice A m c).ownBlock) := hide ⟨hg2.os, hg2.tape, hg2.output, hg2.size, hg2.block⟩
  have HO2 := hide hown2
  have HH : (fun V : World => V.cell? ⟨g, 0, none⟩ = some (.string ⟨p.toArray⟩) ∧ V.cell? ⟨g, 1, none⟩ = some (.int .i64 (a : Int)) ∧ V.cell? ⟨g, 2, none⟩ = some (.slice A m c)) W2 := ⟨d0, d1, d2⟩
  clear hK K hown2 hg2 hat2 hP2 c0 c1 c2 c3 c4 f0 f1 f2 f3 f4
  simp only [List.setIfInBounds_toArray]
  refine wpAnyM_take (i := 28) (v := ?_) rfl rfl (by kernel_rfl) (fun _ _ _ h => h) (Or.inl ⟨by rfl, ?_⟩) (by assumption) ?_
  rotate_left
  · (intro V hV; (try dsimp only at hV); go_simp; with_reducible rfl)
  try simp only [Act.put, List.setIfInBounds_toArray, List.set_cons_zero, List.set_cons_succ]
  refine wpAnyM_take (i := 29) (v := ?_) rfl rfl (by kernel_rfl) (fun _ _ _ h => h) (Or.inl ⟨by rfl, ?_⟩) (by assumption) ?_
  rotate_left
  · (intro V hV; (try dsimp only at hV); go_simp; with_reducible rfl)
  try simp only [Act.put, List.setIfInBounds_toArray, List.set_cons_zero, List.set_cons_succ]
  refine wpAnyM_step (i := 30) (by kernel_rfl) rfl rfl (fun K hK => ?_)
  go_simp
  refine hK.out _ _ (fun h => absurd rfl h) ?_
  refine wpAnyM_done (by kernel_rfl) ?_ _
  clear hK K HH
  have hIo : Io B W2 A' m' c' s.wait := World.ownsRow.kept (World.ownsRow.alloc hS'.out.2.2.1 _) HG2.out (own_ne hS'.out.2.2.1 hS'.out.2.1 (by decide))
  have hb2 : Below B w W2 := Below.grown (h := (Below.refl B w).alloc (by omega) _) (hg := HG2.out) (by simp; omega) (fun q hq => (World.ownsRow.lt hS'.out.2.1 q hq).1)
  have HIO := hide hIo
  have HB2 := hide hb2
  clear hIo hb2 hne
  obtain ⟨W3, hW3⟩ : ∃ W3, W2.setCell ⟨g, 2, none⟩ (.slice A2 (m + 1) x2) = W3 := ⟨_, rfl⟩
  have hS3 : Sc B W3 g p { s with toks := s.toks ++ [⟨k, (p.drop a).take n, a, [], false⟩] } A2 (m + 1) x2 A' m' c' := by
    rw [← hW3]
    refine ⟨HP2.out.set_ 2 _, ?_, own_set_blk HIO.out (p := ⟨g, 2, none⟩) HP2.out (by decide) _, hBg⟩
    have := HO2.out
    rw [← tvs_append] at this
    exact own_set_blk this (p := ⟨g, 2, none⟩) HP2.out (by decide) _
  have hb3 : Below B w W3 := by rw [← hW3]; exact HB2.out.setCell (p := ⟨g, 2, none⟩) hBg _
  rw [hW3]
  have HS3 := hide hS3
  have HB3 := hide hb3
  obtain ⟨⟨q0, q1, q2, q3, q4⟩, r0, r1, r2, r3, r4⟩ := hS3.cells
  have hlt3 := hS3.lt
  dsimp only at q1
  rw [HA.out] at q1
  clear hS3 hb3 hW3 HP2 HIO HG2 HO2 HB2 d0 d1 d2 d3 d4 e0 e1 e2 e3 e4 hy2 HO HR HM hi hz0 hz1 hz2
  go_wp2
  go_end0
  refine ⟨rfl, ⟨A2, m + 1, x2, A', m', c', ?_⟩, HB3.out.setCell (p := ⟨g, 1, none⟩) hBg _⟩
  have := HS3.out.at_ (a + n)
  simp only [Int.natCast_add] at this
  unfold addS
  rw [HA.out]
  exact this
end Go.Proofs.YtpfcfcbljkdkhaaDoor
