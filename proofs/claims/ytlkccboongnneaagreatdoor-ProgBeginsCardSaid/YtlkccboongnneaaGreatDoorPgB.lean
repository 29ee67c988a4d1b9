/- clone.Proc. -/
import Derived.Test.YtlkccboongnneaaGreatDoorPgA
namespace Go.Proofs.YtlkccboongnneaaGreatDoor
open Go.RowKit
set_option linter.unusedVariables false
/-- The cells of a child in a block. -/
theorem ten {w : World} {g : Nat} {t : TypeId} {a b c d e f x y z u : Value} (H : Blk w g t #[a, b, c, d, e, f, x, y, z, u]) :
    (w.cell? ⟨g, 0, none⟩ = some a ∧ w.cell? ⟨g, 1, none⟩ = some b ∧ w.cell? ⟨g, 2, none⟩ = some c ∧ w.cell? ⟨g, 3, none⟩ = some d ∧ w.cell? ⟨g, 4, none⟩ = some e ∧ w.cell? ⟨g, 5, none⟩ = some f ∧ w.cell? ⟨g, 6, none⟩ = some x ∧ w.cell? ⟨g, 7, none⟩ = some y ∧ w.cell? ⟨g, 8, none⟩ = some z ∧ w.cell? ⟨g, 9, none⟩ = some u) ∧
    w.frozen? ⟨g, 0, none⟩ = false ∧ w.frozen? ⟨g, 1, none⟩ = false ∧ w.frozen? ⟨g, 2, none⟩ = false ∧ w.frozen? ⟨g, 3, none⟩ = false ∧ w.frozen? ⟨g, 4, none⟩ = false ∧ w.frozen? ⟨g, 5, none⟩ = false ∧ w.frozen? ⟨g, 6, none⟩ = false ∧ w.frozen? ⟨g, 7, none⟩ = false ∧ w.frozen? ⟨g, 8, none⟩ = false ∧ w.frozen? ⟨g, 9, none⟩ = false :=
  ⟨⟨H.cell 0, H.cell 1, H.cell 2, H.cell 3, H.cell 4, H.cell 5, H.cell 6, H.cell 7, H.cell 8, H.cell 9⟩, H.frozen 0, H.frozen 1, H.frozen 2, H.frozen 3, H.frozen 4, H.frozen 5, H.frozen 6, H.frozen 7, H.frozen 8, H.frozen 9⟩
set_option maxRecDepth 100000 in
set_option maxHeartbeats 8000000 in
theorem cproc_any (p : PR) (s : PS) (w : World) (hI : InP w w.heap.size p s) (hn : s.an ≤ 1000000 ∧ s.en ≤ 1000000 ∧ s.fn ≤ 1000000 ∧ s.dn ≤ 1000000) :
    Calls Tryz.prog 24 #[p.v s] w fun e w' => ∃ s', e = .returned (p.v s') ∧ OwP w.heap.size w' p s' ∧ s'.an = s.an ∧ s'.en = s.en ∧ s'.fn = s.fn ∧ s'.dn = s.dn ∧ Below w.heap.size w w' := by
  obtain ⟨A, an, ac, E, en, ec, F, fn, fc, D, dn, dc⟩ := s
  obtain ⟨pid, prog, args, env, fds, done, status, phase, count, buf⟩ := p
  unfold PR.v PR.cells
  dsimp only at *
  obtain ⟨n1, n2, n3, n4⟩ := hn
  go_enter Tryz.func24, Tryz.ntmps24
  go_wp2_with fail
  generalize hW1 : ((w.alloc (.cells #[Value.int .i64 pid, .string ⟨prog.toArray⟩, .slice A an ac, .slice E en ec, .slice F fn fc, .bool done, .int .i64 status, .int .i64 phase, .int .i64 count, .slice D dn dc] 26)).alloc (.cells #[Value.int .i64 0, .string ⟨#[]⟩, .slice none 0 0, .slice none 0 0, .slice none 0 0, .bool false, .int .i64 0, .int .i64 0, .int .i64 0, .slice none 0 0] 26)) = W1
  have hP : Blk W1 w.heap.size 26 #[Value.int .i64 pid, .string ⟨prog.toArray⟩, .slice A an ac, .slice E en ec, .slice F fn fc, .bool done, .int .i64 status, .int .i64 phase, .int .i64 count, .slice D dn dc] := by rw [← hW1]; exact (Blk.new w 26 _).alloc _
  have hQ : Blk W1 (w.heap.size + 1) 26 #[Value.int .i64 0, .string ⟨#[]⟩, .slice none 0 0, .slice none 0 0, .slice none 0 0, .bool false, .int .i64 0, .int .i64 0, .int .i64 0, .slice none 0 0] := by
    rw [← hW1]
    have h1 := Blk.new (w.alloc (.cells #[Value.int .i64 pid, .string ⟨prog.toArray⟩, .slice A an ac, .slice E en ec, .slice F fn fc, .bool done, .int .i64 status, .int .i64 phase, .int .i64 count, .slice D dn dc] 26)) 26 #[Value.int .i64 0, .string ⟨#[]⟩, .slice none 0 0, .slice none 0 0, .slice none 0 0, .bool false, .int .i64 0, .int .i64 0, .int .i64 0, .slice none 0 0]
    simpa only [World.size_alloc] using h1
  have hb0 : Below w.heap.size w W1 := by rw [← hW1]; exact ((Below.refl _ _).alloc (Nat.le_refl _) _).alloc (by simp) _
  have hz : w.heap.size + 2 ≤ W1.heap.size := by rw [← hW1]; simp
  have HI := hide (hI.below hb0)
  clear hW1 hI
  obtain ⟨⟨a0, a1, a2, a3, a4, a5, a6, a7, a8, a9⟩, f0, f1, f2, f3, f4, f5, f6, f7, f8, f9⟩ := ten hP
  refine wp_region_K (fun V => V.cell? ⟨w.heap.size, 2, none⟩ = some (.slice A an ac) ∧ V.cell? ⟨w.heap.size, 3, none⟩ = some (.slice E en ec) ∧ V.cell? ⟨w.heap.size, 4, none⟩ = some (.slice F fn fc) ∧ V.cell? ⟨w.heap.size, 9, none⟩ = some (.slice D dn dc)) [13, 15, 17, 19] rfl ⟨a2, a3, a4, a9⟩ (fun hHeld => ?_)
  refine wpAnyK_take (i := 0) (v := ?_) rfl rfl (by kernel_rfl) (fun _ _ _ h => h) (Or.inl ⟨by rfl, ?_⟩) (by assumption) ?_
  rotate_left
  · (intro V hV; (try dsimp only at hV); go_simp; with_reducible rfl)
  try simp only [Act.put, List.setIfInBounds_toArray, List.set_cons_zero, List.set_cons_succ]
  refine wpAnyK_take (i := 1) (v := ?_) rfl rfl (by kernel_rfl) (fun _ _ _ h => h) (Or.inl ⟨by rfl, ?_⟩) (by assumption) ?_
  rotate_left
  · (intro V hV; (try dsimp only at hV); go_simp; with_reducible rfl)
  try simp only [Act.put, List.setIfInBounds_toArray, List.set_cons_zero, List.set_cons_succ]
  refine wpAnyK_take (i := 3) (v := ?_) rfl rfl (by kernel_rfl) (fun _ _ _ h => h) (Or.inl ⟨by rfl, ?_⟩) (by assumption) ?_
  rotate_left
  · (intro V hV; (try dsimp only at hV); go_simp; with_reducible rfl)
  try simp only [Act.put, List.setIfInBounds_toArray, List.set_cons_zero, List.set_cons_succ]
  refine wpAnyK_take (i := 4) (v := ?_) rfl rfl (by kernel_rfl) (fun _ _ _ h => h) (Or.inl ⟨by rfl, ?_⟩) (by assumption) ?_
  rotate_left
  · (intro V hV; (try dsimp only at hV); go_simp; with_reducible rfl)
  try simp only [Act.put, List.setIfInBounds_toArray, List.set_cons_zero, List.set_cons_succ]
  refine wpAnyK_take (i := 6) (v := ?_) rfl rfl (by kernel_rfl) (fun _ _ _ h => h) (Or.inl ⟨by rfl, ?_⟩) (by assumption) ?_
  rotate_left
  · (intro V hV; (try dsimp only at hV); go_simp; with_reducible rfl)
  try simp only [Act.put, List.setIfInBounds_toArray, List.set_cons_zero, List.set_cons_succ]
  refine wpAnyK_take (i := 7) (v := ?_) rfl rfl (by kernel_rfl) (fun _ _ _ h => h) (Or.inl ⟨by rfl, ?_⟩) (by assumption) ?_
  rotate_left
  · (intro V hV; (try dsimp only at hV); go_simp; with_reducible rfl)
  try simp only [Act.put, List.setIfInBounds_toArray, List.set_cons_zero, List.set_cons_succ]
  refine wpAnyK_take (i := 9) (v := ?_) rfl rfl (by kernel_rfl) (fun _ _ _ h => h) (Or.inl ⟨by rfl, ?_⟩) (by assumption) ?_
  rotate_left
  · (intro V hV; (try dsimp only at hV); go_simp; with_reducible rfl)
  try simp only [Act.put, List.setIfInBounds_toArray, List.set_cons_zero, List.set_cons_succ]
  refine wpAnyK_take (i := 10) (v := ?_) rfl rfl (by kernel_rfl) (fun _ _ _ h => h) (Or.inl ⟨by rfl, ?_⟩) (by assumption) ?_
  rotate_left
  · (intro V hV; (try dsimp only at hV); go_simp; with_reducible rfl)
  try simp only [Act.put, List.setIfInBounds_toArray, List.set_cons_zero, List.set_cons_succ]
  have hP0 := hide (hP.drew)
  have hQ0 := hide (hQ.drew)
  have HI0 := hide (HI.out.below ((Below.refl w.heap.size W1).drew))
  have HB0 := hide (hb0.drew)
  have hz0 : w.heap.size + 2 ≤ W1.drew.heap.size := hz
  clear a0 a1 a2 a3 a4 a5 a6 a7 a8 a9 f0 f1 f2 f3 f4 f5 f6 f7 f8 f9 hP hQ HI hb0 hz
  refine wpAnyK_step (i := 2) (by kernel_rfl) rfl rfl (fun K hK => ?_)
  go_simp
  refine (tlist_any args A an ac _ (by exact HI0.out.a.more (by omega)) n1).mono ?_
  rintro e w1 ⟨A', acx, rfl, hO, hb⟩
  have hP1 := hide (Blk.below (h := (by exact hP0.out)) (hb := hb) (by omega))
  have hQ1 := hide (Blk.below (h := (by exact hQ0.out)) (hb := hb) (by omega))
  have HI1 := hide (HI0.out.below (hb.mono (by omega)))
  have HB1 := hide (HB0.out.trans (hb.mono (by omega)))
  have hz1 : w.heap.size + 2 ≤ w1.heap.size := Nat.le_trans hz0 hb.size
  have HOA1 := hide (own_more (base' := w.heap.size + 2) hO (by omega))
  obtain ⟨⟨a0, a1, a2, a3, a4, a5, a6, a7, a8, a9⟩, -⟩ := ten hP1.out
  refine hK.out _ _ (fun _ _ => ⟨a2, a3, a4, a9⟩) ?_
  clear hK K a0 a1 a2 a3 a4 a5 a6 a7 a8 a9 hO hb hP0 hQ0 HI0 HB0 hz0
  simp only [List.setIfInBounds_toArray]
  refine wpAnyK_takeF (i := 12) (v := ?_) rfl rfl (by kernel_rfl) (fun _ _ _ h => h) (Or.inl ⟨by rfl, ?_⟩) ?_
  rotate_left
  · (intro V hV; go_simp; with_reducible rfl)
  try simp only [Act.put, List.setIfInBounds_toArray, List.set_cons_zero, List.set_cons_succ]
  refine wpAnyK_step (i := 5) (by kernel_rfl) rfl rfl (fun K hK => ?_)
  go_simp
  refine (tlist_any env E en ec _ (by exact HI1.out.e.more (by omega)) n2).mono ?_
  rintro e w2 ⟨E', ecx, rfl, hO, hb⟩
  have hP2 := hide (Blk.below (h := (by exact hP1.out)) (hb := hb) (by omega))
  have hQ2 := hide (Blk.below (h := (by exact hQ1.out)) (hb := hb) (by omega))
  have HI2 := hide (HI1.out.below (hb.mono (by omega)))
  have HB2 := hide (HB1.out.trans (hb.mono (by omega)))
  have hz2 : w.heap.size + 2 ≤ w2.heap.size := Nat.le_trans hz1 hb.size
  have HOA2 := hide (own_below (by exact HOA1.out) hb)
  have HOE2 := hide (own_more (base' := w.heap.size + 2) hO (by omega))
  obtain ⟨⟨a0, a1, a2, a3, a4, a5, a6, a7, a8, a9⟩, -⟩ := ten hP2.out
  refine hK.out _ _ (fun _ _ => ⟨a2, a3, a4, a9⟩) ?_
  clear hK K a0 a1 a2 a3 a4 a5 a6 a7 a8 a9 hO hb hP1 hQ1 HI1 HB1 hz1 HOA1
  simp only [List.setIfInBounds_toArray]
  refine wpAnyK_step (i := 8) (by kernel_rfl) rfl rfl (fun K hK => ?_)
  go_simp
  refine (ilist_any fds F fn fc _ (by exact HI2.out.f.more (by omega)) n3).mono ?_
  rintro e w3 ⟨F', fcx, rfl, hO, hb⟩
  have hP3 := hide (Blk.below (h := (by exact hP2.out)) (hb := hb) (by omega))
  have hQ3 := hide (Blk.below (h := (by exact hQ2.out)) (hb := hb) (by omega))
  have HI3 := hide (HI2.out.below (hb.mono (by omega)))
  have HB3 := hide (HB2.out.trans (hb.mono (by omega)))
  have hz3 : w.heap.size + 2 ≤ w3.heap.size := Nat.le_trans hz2 hb.size
  have HOA3 := hide (own_below (by exact HOA2.out) hb)
  have HOE3 := hide (own_below (by exact HOE2.out) hb)
  have HOF3 := hide (own_more (base' := w.heap.size + 2) hO (by omega))
  obtain ⟨⟨a0, a1, a2, a3, a4, a5, a6, a7, a8, a9⟩, -⟩ := ten hP3.out
  refine hK.out _ _ (fun _ _ => ⟨a2, a3, a4, a9⟩) ?_
  clear hK K a0 a1 a2 a3 a4 a5 a6 a7 a8 a9 hO hb hP2 hQ2 HI2 HB2 hz2 HOA2 HOE2
  simp only [List.setIfInBounds_toArray]
  refine wpAnyK_step (i := 11) (by kernel_rfl) rfl rfl (fun K hK => ?_)
  go_simp
  refine (Dk.list_any D dn dc buf _ (by exact HI3.out.d.more (by omega)) n4).mono ?_
  rintro e w4 ⟨D', dcx, rfl, hO, hb⟩
  have hP4 := hide (Blk.below (h := (by exact hP3.out)) (hb := hb) (by omega))
  have hQ4 := hide (Blk.below (h := (by exact hQ3.out)) (hb := hb) (by omega))
  have HI4 := hide (HI3.out.below (hb.mono (by omega)))
  have HB4 := hide (HB3.out.trans (hb.mono (by omega)))
  have hz4 : w.heap.size + 2 ≤ w4.heap.size := Nat.le_trans hz3 hb.size
  have HOA4 := hide (own_below (by exact HOA3.out) hb)
  have HOE4 := hide (own_below (by exact HOE3.out) hb)
  have HOF4 := hide (own_below (by exact HOF3.out) hb)
  have HOD4 := hide (own_more (base' := w.heap.size + 2) hO (by omega))
  obtain ⟨⟨a0, a1, a2, a3, a4, a5, a6, a7, a8, a9⟩, -⟩ := ten hP4.out
  refine hK.out _ _ (fun _ _ => ⟨a2, a3, a4, a9⟩) ?_
  clear hK K a0 a1 a2 a3 a4 a5 a6 a7 a8 a9 hO hb hP3 hQ3 HI3 HB3 hz3 HOA3 HOE3 HOF3
  simp only [List.setIfInBounds_toArray]
  clear HI4 hHeld
  obtain ⟨⟨m0, m1, m2, m3, m4, m5, m6, m7, m8, m9⟩, k0, k1, k2, k3, k4, k5, k6, k7, k8, k9⟩ := ten hP4.out
  obtain ⟨⟨i0, i1, i2, i3, i4, i5, i6, i7, i8, i9⟩, j0, j1, j2, j3, j4, j5, j6, j7, j8, j9⟩ := ten hQ4.out
  have hu1 : w.heap.size < w4.heap.size := by omega
  have hu2 : w.heap.size + 1 < w4.heap.size := by omega
  refine wpAnyK_step (i := 13) (by kernel_rfl) rfl rfl (fun K hK => ?_)
  go_simp
  refine hK.out _ _ (fun _ h => absurd (by decide) h) ?_
  clear hK K
  simp only [List.setIfInBounds_toArray]
  refine wpAnyK_takeF (i := 14) (v := ?_) rfl rfl (by kernel_rfl) (fun _ _ _ h => h) (Or.inl ⟨by rfl, ?_⟩) ?_
  rotate_left
  · (intro V hV; go_simp; with_reducible rfl)
  try simp only [Act.put, List.setIfInBounds_toArray, List.set_cons_zero, List.set_cons_succ]
  refine wpAnyK_step (i := 15) (by kernel_rfl) rfl rfl (fun K hK => ?_)
  go_simp
  refine hK.out _ _ (fun _ h => absurd (by decide) h) ?_
  clear hK K
  simp only [List.setIfInBounds_toArray]
  refine wpAnyK_takeF (i := 16) (v := ?_) rfl rfl (by kernel_rfl) (fun _ _ _ h => h) (Or.inl ⟨by rfl, ?_⟩) ?_
  rotate_left
  · (intro V hV; go_simp; with_reducible rfl)
  try simp only [Act.put, List.setIfInBounds_toArray, List.set_cons_zero, List.set_cons_succ]
  refine wpAnyK_step (i := 17) (by kernel_rfl) rfl rfl (fun K hK => ?_)
  go_simp
  refine hK.out _ _ (fun _ h => absurd (by decide) h) ?_
  clear hK K
  simp only [List.setIfInBounds_toArray]
  refine wpAnyK_takeF (i := 18) (v := ?_) rfl rfl (by kernel_rfl) (fun _ _ _ h => h) (Or.inl ⟨by rfl, ?_⟩) ?_
  rotate_left
  · (intro V hV; go_simp; with_reducible rfl)
  try simp only [Act.put, List.setIfInBounds_toArray, List.set_cons_zero, List.set_cons_succ]
  refine wpAnyK_step (i := 19) (by kernel_rfl) rfl rfl (fun K hK => ?_)
  go_simp
  refine hK.out _ _ (fun _ h => absurd (by decide) h) ?_
  clear hK K
  simp only [List.setIfInBounds_toArray]
  refine wpAnyK_done (by kernel_rfl) ?_ _
  have HO : Hid (OwP (w.heap.size + 2) w4 ⟨pid, prog, args, env, fds, done, status, phase, count, buf⟩ ⟨A', an, acx, E', en, ecx, F', fn, fcx, D', dn, dcx⟩) := hide ⟨HOA4.out, HOE4.out, HOF4.out, Od.of HOD4.out⟩
  clear HOA4 HOE4 HOF4 HOD4
  go_wp2_with fail
  refine bodyPost_ret (v := PR.v ⟨pid, prog, args, env, fds, done, status, phase, count, buf⟩ ⟨A', an, acx, E', en, ecx, F', fn, fcx, D', dn, dcx⟩) (by simp only [results, Tryz.results24]; go_simp; rfl) rfl ⟨⟨A', an, acx, E', en, ecx, F', fn, fcx, D', dn, dcx⟩, rfl, ?_, rfl, rfl, rfl, rfl, ?_⟩
  · refine OwP.more (B := w.heap.size + 2) ?_ (by omega)
    repeat (refine OwP.far ?_ (by simp) _)
    exact HO.out
  · repeat (refine Below.setCell ?_ (by simp) _)
    exact HB4.out
end Go.Proofs.YtlkccboongnneaaGreatDoor
