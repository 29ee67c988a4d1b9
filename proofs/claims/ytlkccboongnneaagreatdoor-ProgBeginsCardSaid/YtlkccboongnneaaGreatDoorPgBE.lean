/- How a child begins: the law. -/
import Derived.Test.YtlkccboongnneaaGreatDoorPgBD
namespace Go.Proofs.YtlkccboongnneaaGreatDoor
open Go.RowKit
set_option linter.unusedVariables false
set_option maxRecDepth 1000000 in
set_option maxHeartbeats 16000000 in
theorem begins_any (p : PR) (s : PS) (B : Option Addr) (n c : Nat) (b : Bs) (w : World) (hI : InP w w.heap.size p s) (hst : i64R p.status ∧ i64R p.phase ∧ i64R p.count) (hR : Reads w w.heap.size 1 B n (bv b)) (hc : n ≤ c) (hS : StB w.heap.size w) :
    Calls Tryz.prog 3 #[.agg #[Value.int .i64 p.pid, .string ⟨p.prog.toArray⟩, .slice s.A s.an s.ac, .slice s.E s.en s.ec, .slice s.F s.fn s.fc, .bool p.done, .int .i64 p.status, .int .i64 p.phase, .int .i64 p.count, .slice s.D s.dn s.dc], .slice B n c] w fun e w' => e = .returned (.bool true) ∧ Below w.heap.size w w' := by
  have hl1 := rd_lenS hI.a
  have hl2 := rd_lenS hI.e
  have hl3 := rd_lenI hI.f
  have XF := hide (few_any p s (w.alloc (.cells #[Value.int .i64 p.pid, .string ⟨p.prog.toArray⟩, .slice s.A s.an s.ac, .slice s.E s.en s.ec, .slice s.F s.fn s.fc, .bool p.done, .int .i64 p.status, .int .i64 p.phase, .int .i64 p.count, .slice s.D s.dn s.dc] 26)) (in_on hI (on_alloc _ _)))
  have XH := hide (fun W (hb : Below w.heap.size w W) => heads_any W ((hS.keep hb).more hb.size))
  have HPX : Hid (Blk (w.alloc (.cells #[Value.int .i64 p.pid, .string ⟨p.prog.toArray⟩, .slice s.A s.an s.ac, .slice s.E s.en s.ec, .slice s.F s.fn s.fc, .bool p.done, .int .i64 p.status, .int .i64 p.phase, .int .i64 p.count, .slice s.D s.dn s.dc] 26)) w.heap.size 26 #[Value.int .i64 p.pid, .string ⟨p.prog.toArray⟩, .slice s.A s.an s.ac, .slice s.E s.en s.ec, .slice s.F s.fn s.fc, .bool p.done, .int .i64 p.status, .int .i64 p.phase, .int .i64 p.count, .slice s.D s.dn s.dc]) := hide (Blk.new w _ _)
  have HI := hide (in_on hI (on_alloc w (.cells #[Value.int .i64 p.pid, .string ⟨p.prog.toArray⟩, .slice s.A s.an s.ac, .slice s.E s.en s.ec, .slice s.F s.fn s.fc, .bool p.done, .int .i64 p.status, .int .i64 p.phase, .int .i64 p.count, .slice s.D s.dn s.dc] 26)))
  have HR := hide ((hR.below (on_alloc w (.cells #[Value.int .i64 p.pid, .string ⟨p.prog.toArray⟩, .slice s.A s.an s.ac, .slice s.E s.en s.ec, .slice s.F s.fn s.fc, .bool p.done, .int .i64 p.status, .int .i64 p.phase, .int .i64 p.count, .slice s.D s.dn s.dc] 26))).more (on_alloc w (.cells #[Value.int .i64 p.pid, .string ⟨p.prog.toArray⟩, .slice s.A s.an s.ac, .slice s.E s.en s.ec, .slice s.F s.fn s.fc, .bool p.done, .int .i64 p.status, .int .i64 p.phase, .int .i64 p.count, .slice s.D s.dn s.dc] 26)).size)
  have HB : Hid (Below w.heap.size w (w.alloc (.cells #[Value.int .i64 p.pid, .string ⟨p.prog.toArray⟩, .slice s.A s.an s.ac, .slice s.E s.en s.ec, .slice s.F s.fn s.fc, .bool p.done, .int .i64 p.status, .int .i64 p.phase, .int .i64 p.count, .slice s.D s.dn s.dc] 26))) := hide (on_alloc _ _)
  have HL := hide (And.intro hl1 (And.intro hl2 hl3))
  clear hI hR hS hst hl1 hl2 hl3
  go_enter Tryz.func3, Tryz.ntmps3
  go_wp2_with fail
  refine XF.out.mono ?_
  rintro e w2 ⟨f, rfl, hf, hb⟩
  have HPX2 := hide (HPX.out.below hb HPX.out.lt)
  have HI2 := hide (in_on HI.out hb)
  have HR2 := hide ((HR.out.below hb).more hb.size)
  have HB2 := hide (HB.out.trans (hb.mono HB.out.size))
  have HFB := hide hf
  clear hb XF HPX HI HR HB hf
  cases f with
  | false =>
    have X := hide (XH.out w2 HB2.out)
    clear XH
    go_wp2_with fail
    refine X.out.mono ?_
    rintro e w3 ⟨rfl, hb⟩
    have HB3 := hide (HB2.out.trans (hb.mono HB2.out.size))
    clear hb X
    go_wp2_with fail
    go_ret
    exact ⟨rfl, HB3.out⟩
  | true =>
    have hfb := HFB.out rfl
    clear HFB
    by_cases hn3 : n ≤ 300
    · have hn3b : ¬ ((300 : Int) < (n : Int)) := by omega
      have X1 := hide (program_any b B n c (by omega) w2 HR2.out)
      obtain ⟨k1, k2, k3, k4, k5, k6, k7⟩ := hfb
      have hsz : s.an ≤ 1000 ∧ s.en ≤ 1000 ∧ s.fn ≤ 1000 := by have := HL.out; omega
      have hfit : Hid (FitP (bornP p.pid p.prog p.args p.env p.fds)) := hide ⟨by show p.args.length ≤ _; omega, by show p.env.length ≤ _; omega, by show p.fds.length ≤ _; omega, by show 0 ≤ _; omega, rfl, fun x hx => by have := k6 x hx; omega, r0, r0, r0, by show p.prog.length ≤ _; omega⟩
      have hpm : p.prog.length ≤ maxLen := by unfold maxLen; omega
      clear k1 k2 k3 k4 k5 k6 k7
      go_wp2_with fail
      refine X1.out.mono ?_
      rintro e w3 ⟨rfl, hb⟩
      have HPX3 := hide (HPX2.out.below hb HPX2.out.lt)
      have HI3 := hide (in_on HI2.out hb)
      have HR3 := hide ((HR2.out.below hb).more hb.size)
      have HB3 := hide (HB2.out.trans (hb.mono HB2.out.size))
      clear hb X1 HPX2 HI2 HR2 HB2
      have X2 := hide (rprogram_any b B n c (by omega) hc w3 HR3.out)
      obtain ⟨ps, hps⟩ : ∃ x, (progP b).1 = x := ⟨_, rfl⟩
      obtain ⟨pk, hpk⟩ : ∃ x, (progP b).2 = x := ⟨_, rfl⟩
      rw [hps, hpk] at X2 ⊢
      clear hps hpk
      go_wp2_with fail
      refine X2.out.mono ?_
      rintro e w4 ⟨rfl, hb⟩
      have HPX4 := hide (HPX3.out.below hb HPX3.out.lt)
      have HI4 := hide (in_on HI3.out hb)
      have HB4 := hide (HB3.out.trans (hb.mono HB3.out.size))
      clear hb X2 HPX3 HI3 HR3 HB3
      have XB0 := begin_any p.pid p.prog p.args p.env p.fds s.A s.an s.ac s.E s.en s.ec s.F s.fn s.fc w4 HI4.out.a HI4.out.e HI4.out.f ⟨by omega, by omega, by omega⟩
      unfold AfterEnd at XB0
      simp only [PR.v, PR.cells] at XB0
      have X3 := hide XB0
      clear XB0
      obtain ⟨⟨c0, c1, c2, c3, c4, c5, c6, c7, c8, c9⟩, -⟩ := ten HPX4.out
      go_wp2_with fail
      refine X3.out.mono ?_
      rintro e w5 ⟨z, rfl, ho, hb⟩
      have HPX5 := hide (HPX4.out.below hb HPX4.out.lt)
      have HI5 := hide (in_on HI4.out hb)
      have HB5 := hide (HB4.out.trans (hb.mono HB4.out.size))
      have HZ5 := hide ho.in_
      clear hb ho X3 HPX4 HI4 HB4 c0 c1 c2 c3 c4 c5 c6 c7 c8 c9
      (try dsimp only [bornP])
      go_wp2_with fail
      obtain ⟨w6, hw6⟩ : ∃ W, w5.alloc (.cells #[Value.int .i64 p.pid, .string ⟨p.prog.toArray⟩, .slice z.A z.an z.ac, .slice z.E z.en z.ec, .slice z.F z.fn z.fc, .bool false, .int .i64 0, .int .i64 0, .int .i64 0, .slice z.D z.dn z.dc] 26) = W := ⟨_, rfl⟩
      have hb6 : Below w5.heap.size w5 w6 := by rw [← hw6]; exact on_alloc _ _
      have HQ6 : Hid (Blk w6 w5.heap.size 26 #[Value.int .i64 p.pid, .string ⟨p.prog.toArray⟩, .slice z.A z.an z.ac, .slice z.E z.en z.ec, .slice z.F z.fn z.fc, .bool false, .int .i64 0, .int .i64 0, .int .i64 0, .slice z.D z.dn z.dc]) := hide (by rw [← hw6]; exact Blk.new w5 _ _)
      have HPX6 := hide (HPX5.out.below hb6 HPX5.out.lt)
      have HI6 := hide (in_on HI5.out hb6)
      have HZ6 := hide (in_on HZ5.out hb6)
      have HB6 := hide (HB5.out.trans (hb6.mono HB5.out.size))
      (try rw [hw6])
      clear hw6 hb6 HPX5 HI5 HB5 HZ5
      have HPX := hide (HPX6.out.drew)
      have HQX := hide (HQ6.out.drew)
      have HI := hide (in_on HI6.out ((Below.refl w6.heap.size w6).drew))
      have HZ := hide (in_on HZ6.out ((Below.refl w6.heap.size w6).drew))
      have HB := hide (HB6.out.drew)
      clear HPX6 HQ6 HI6 HZ6 HB6
      obtain ⟨⟨e0, e1, e2, e3, e4, e5, e6, e7, e8, e9⟩, -⟩ := ten HPX.out
      obtain ⟨⟨g0, g1, g2, g3, g4, g5, g6, g7, g8, g9⟩, -⟩ := ten HQX.out
      refine wp_region_K (fun V => V.cell? ⟨w.heap.size, 0, none⟩ = some (.int .i64 p.pid) ∧ V.cell? ⟨w.heap.size, 1, none⟩ = some (.string ⟨p.prog.toArray⟩) ∧ V.cell? ⟨w.heap.size, 2, none⟩ = some (.slice s.A s.an s.ac) ∧ V.cell? ⟨w.heap.size, 3, none⟩ = some (.slice s.E s.en s.ec) ∧ V.cell? ⟨w.heap.size, 4, none⟩ = some (.slice s.F s.fn s.fc) ∧ V.cell? ⟨w5.heap.size, 0, none⟩ = some (.int .i64 p.pid) ∧ V.cell? ⟨w5.heap.size, 1, none⟩ = some (.string ⟨p.prog.toArray⟩) ∧ V.cell? ⟨w5.heap.size, 2, none⟩ = some (.slice z.A z.an z.ac) ∧ V.cell? ⟨w5.heap.size, 3, none⟩ = some (.slice z.E z.en z.ec) ∧ V.cell? ⟨w5.heap.size, 4, none⟩ = some (.slice z.F z.fn z.fc) ∧ V.cell? ⟨w5.heap.size, 5, none⟩ = some (.bool false) ∧ V.cell? ⟨w5.heap.size, 6, none⟩ = some (.int .i64 0) ∧ V.cell? ⟨w5.heap.size, 7, none⟩ = some (.int .i64 0) ∧ V.cell? ⟨w5.heap.size, 8, none⟩ = some (.int .i64 0) ∧ V.cell? ⟨w5.heap.size, 9, none⟩ = some (.slice z.D z.dn z.dc)) [] rfl ⟨e0, e1, e2, e3, e4, g0, g1, g2, g3, g4, g5, g6, g7, g8, g9⟩ (fun hHeld => ?_)
      clear e0 e1 e2 e3 e4 e5 e6 e7 e8 e9 g0 g1 g2 g3 g4 g5 g6 g7 g8 g9
      refine wpAnyK_takeF (i := 0) (v := ?_) rfl rfl (by kernel_rfl) (fun _ _ _ h => h) (Or.inl ⟨by rfl, ?_⟩) ?_
      rotate_left
      · (intro V hV; go_simp; with_reducible rfl)
      try simp only [Act.put, List.setIfInBounds_toArray, List.set_cons_zero, List.set_cons_succ]
      refine wpAnyK_takeF (i := 1) (v := ?_) rfl rfl (by kernel_rfl) (fun _ _ _ h => h) (Or.inl ⟨by rfl, ?_⟩) ?_
      rotate_left
      · (intro V hV; go_simp; with_reducible rfl)
      try simp only [Act.put, List.setIfInBounds_toArray, List.set_cons_zero, List.set_cons_succ]
      refine wpAnyK_takeF (i := 2) (v := ?_) rfl rfl (by kernel_rfl) (fun _ _ _ h => h) (Or.inl ⟨by rfl, ?_⟩) ?_
      rotate_left
      · (intro V hV; go_simp; with_reducible rfl)
      try simp only [Act.put, List.setIfInBounds_toArray, List.set_cons_zero, List.set_cons_succ]
      refine wpAnyK_takeF (i := 3) (v := ?_) rfl rfl (by kernel_rfl) (fun _ _ _ h => h) (Or.inl ⟨by rfl, ?_⟩) ?_
      rotate_left
      · (intro V hV; go_simp; with_reducible rfl)
      try simp only [Act.put, List.setIfInBounds_toArray, List.set_cons_zero, List.set_cons_succ]
      refine wpAnyK_takeF (i := 4) (v := ?_) rfl rfl (by kernel_rfl) (fun _ _ _ h => h) (Or.inl ⟨by rfl, ?_⟩) ?_
      rotate_left
      · (intro V hV; go_simp; with_reducible rfl)
      try simp only [Act.put, List.setIfInBounds_toArray, List.set_cons_zero, List.set_cons_succ]
      refine wpAnyK_takeF (i := 5) (v := ?_) rfl rfl (by kernel_rfl) (fun _ _ _ h => h) (Or.inl ⟨by rfl, ?_⟩) ?_
      rotate_left
      · (intro V hV; go_simp; with_reducible rfl)
      try simp only [Act.put, List.setIfInBounds_toArray, List.set_cons_zero, List.set_cons_succ]
      refine wpAnyK_takeF (i := 6) (v := ?_) rfl rfl (by kernel_rfl) (fun _ _ _ h => h) (Or.inl ⟨by rfl, ?_⟩) ?_
      rotate_left
      · (intro V hV; go_simp; with_reducible rfl)
      try simp only [Act.put, List.setIfInBounds_toArray, List.set_cons_zero, List.set_cons_succ]
      refine wpAnyK_takeF (i := 7) (v := ?_) rfl rfl (by kernel_rfl) (fun _ _ _ h => h) (Or.inl ⟨by rfl, ?_⟩) ?_
      rotate_left
      · (intro V hV; go_simp; with_reducible rfl)
      try simp only [Act.put, List.setIfInBounds_toArray, List.set_cons_zero, List.set_cons_succ]
      refine wpAnyK_takeF (i := 8) (v := ?_) rfl rfl (by kernel_rfl) (fun _ _ _ h => h) (Or.inl ⟨by rfl, ?_⟩) ?_
      rotate_left
      · (intro V hV; go_simp; with_reducible rfl)
      try simp only [Act.put, List.setIfInBounds_toArray, List.set_cons_zero, List.set_cons_succ]
      refine wpAnyK_take (i := 9) (v := ?_) rfl rfl (by kernel_rfl) (fun _ _ _ h => h) (Or.inl ⟨by rfl, ?_⟩) (by assumption) ?_
      rotate_left
      · (intro V hV; (try dsimp only at hV); go_simp; with_reducible rfl)
      try simp only [Act.put, List.setIfInBounds_toArray, List.set_cons_zero, List.set_cons_succ]
      refine wpAnyK_take (i := 10) (v := ?_) rfl rfl (by kernel_rfl) (fun _ _ _ h => h) (Or.inl ⟨by rfl, ?_⟩) (by assumption) ?_
      rotate_left
      · (intro V hV; (try dsimp only at hV); go_simp; with_reducible rfl)
      try simp only [Act.put, List.setIfInBounds_toArray, List.set_cons_zero, List.set_cons_succ]
      refine wpAnyK_take (i := 12) (v := ?_) rfl rfl (by kernel_rfl) (fun _ _ _ h => h) (Or.inl ⟨by rfl, ?_⟩) (by assumption) ?_
      rotate_left
      · (intro V hV; (try dsimp only at hV); go_simp; with_reducible rfl)
      try simp only [Act.put, List.setIfInBounds_toArray, List.set_cons_zero, List.set_cons_succ]
      refine wpAnyK_take (i := 13) (v := ?_) rfl rfl (by kernel_rfl) (fun _ _ _ h => h) (Or.inl ⟨by rfl, ?_⟩) (by assumption) ?_
      rotate_left
      · (intro V hV; (try dsimp only at hV); go_simp; with_reducible rfl)
      try simp only [Act.put, List.setIfInBounds_toArray, List.set_cons_zero, List.set_cons_succ]
      refine wpAnyK_step (i := 11) (by kernel_rfl) rfl rfl (fun K hK => ?_)
      go_simp
      refine (known_any p.prog hpm w6.drew).mono ?_
      rintro e w7 ⟨rfl, hb⟩
      have HP_ := hide (HPX.out.below hb HPX.out.lt)
      have HQ_ := hide (HQX.out.below hb HQX.out.lt)
      have HI_ := hide (in_on HI.out hb)
      have HZ_ := hide (in_on HZ.out hb)
      have HB_ := hide (HB.out.trans (hb.mono HB.out.size))
      (skip)
      obtain ⟨⟨e0, e1, e2, e3, e4, e5, e6, e7, e8, e9⟩, -⟩ := ten HP_.out
      obtain ⟨⟨g0, g1, g2, g3, g4, g5, g6, g7, g8, g9⟩, -⟩ := ten HQ_.out
      refine hK.out _ _ (fun _ _ => ⟨e0, e1, e2, e3, e4, g0, g1, g2, g3, g4, g5, g6, g7, g8, g9⟩) ?_
      have HSW : (fun V => V.cell? ⟨w.heap.size, 0, none⟩ = some (.int .i64 p.pid) ∧ V.cell? ⟨w.heap.size, 1, none⟩ = some (.string ⟨p.prog.toArray⟩) ∧ V.cell? ⟨w.heap.size, 2, none⟩ = some (.slice s.A s.an s.ac) ∧ V.cell? ⟨w.heap.size, 3, none⟩ = some (.slice s.E s.en s.ec) ∧ V.cell? ⟨w.heap.size, 4, none⟩ = some (.slice s.F s.fn s.fc) ∧ V.cell? ⟨w5.heap.size, 0, none⟩ = some (.int .i64 p.pid) ∧ V.cell? ⟨w5.heap.size, 1, none⟩ = some (.string ⟨p.prog.toArray⟩) ∧ V.cell? ⟨w5.heap.size, 2, none⟩ = some (.slice z.A z.an z.ac) ∧ V.cell? ⟨w5.heap.size, 3, none⟩ = some (.slice z.E z.en z.ec) ∧ V.cell? ⟨w5.heap.size, 4, none⟩ = some (.slice z.F z.fn z.fc) ∧ V.cell? ⟨w5.heap.size, 5, none⟩ = some (.bool false) ∧ V.cell? ⟨w5.heap.size, 6, none⟩ = some (.int .i64 0) ∧ V.cell? ⟨w5.heap.size, 7, none⟩ = some (.int .i64 0) ∧ V.cell? ⟨w5.heap.size, 8, none⟩ = some (.int .i64 0) ∧ V.cell? ⟨w5.heap.size, 9, none⟩ = some (.slice z.D z.dn z.dc)) w7 := ⟨e0, e1, e2, e3, e4, g0, g1, g2, g3, g4, g5, g6, g7, g8, g9⟩
      clear hK K hb HPX HQX HI HZ HB hHeld e0 e1 e2 e3 e4 e5 e6 e7 e8 e9 g0 g1 g2 g3 g4 g5 g6 g7 g8 g9
      have HPX := HP_
      have HQX := HQ_
      have HI := HI_
      have HZ := HZ_
      have HB := HB_
      have hHeld := HSW
      clear HP_ HQ_ HI_ HZ_ HB_ HSW
      simp only [List.setIfInBounds_toArray]
      refine wpAnyK_step (i := 14) (by kernel_rfl) rfl rfl (fun K hK => ?_)
      go_simp
      refine (rknown_any p.prog w7).mono ?_
      rintro e w8 ⟨rfl, hb⟩
      have HP_ := hide (HPX.out.below hb HPX.out.lt)
      have HQ_ := hide (HQX.out.below hb HQX.out.lt)
      have HI_ := hide (in_on HI.out hb)
      have HZ_ := hide (in_on HZ.out hb)
      have HB_ := hide (HB.out.trans (hb.mono HB.out.size))
      (skip)
      obtain ⟨⟨e0, e1, e2, e3, e4, e5, e6, e7, e8, e9⟩, -⟩ := ten HP_.out
      obtain ⟨⟨g0, g1, g2, g3, g4, g5, g6, g7, g8, g9⟩, -⟩ := ten HQ_.out
      refine hK.out _ _ (fun _ _ => ⟨e0, e1, e2, e3, e4, g0, g1, g2, g3, g4, g5, g6, g7, g8, g9⟩) ?_
      have HSW : (fun V => V.cell? ⟨w.heap.size, 0, none⟩ = some (.int .i64 p.pid) ∧ V.cell? ⟨w.heap.size, 1, none⟩ = some (.string ⟨p.prog.toArray⟩) ∧ V.cell? ⟨w.heap.size, 2, none⟩ = some (.slice s.A s.an s.ac) ∧ V.cell? ⟨w.heap.size, 3, none⟩ = some (.slice s.E s.en s.ec) ∧ V.cell? ⟨w.heap.size, 4, none⟩ = some (.slice s.F s.fn s.fc) ∧ V.cell? ⟨w5.heap.size, 0, none⟩ = some (.int .i64 p.pid) ∧ V.cell? ⟨w5.heap.size, 1, none⟩ = some (.string ⟨p.prog.toArray⟩) ∧ V.cell? ⟨w5.heap.size, 2, none⟩ = some (.slice z.A z.an z.ac) ∧ V.cell? ⟨w5.heap.size, 3, none⟩ = some (.slice z.E z.en z.ec) ∧ V.cell? ⟨w5.heap.size, 4, none⟩ = some (.slice z.F z.fn z.fc) ∧ V.cell? ⟨w5.heap.size, 5, none⟩ = some (.bool false) ∧ V.cell? ⟨w5.heap.size, 6, none⟩ = some (.int .i64 0) ∧ V.cell? ⟨w5.heap.size, 7, none⟩ = some (.int .i64 0) ∧ V.cell? ⟨w5.heap.size, 8, none⟩ = some (.int .i64 0) ∧ V.cell? ⟨w5.heap.size, 9, none⟩ = some (.slice z.D z.dn z.dc)) w8 := ⟨e0, e1, e2, e3, e4, g0, g1, g2, g3, g4, g5, g6, g7, g8, g9⟩
      clear hK K hb HPX HQX HI HZ HB hHeld e0 e1 e2 e3 e4 e5 e6 e7 e8 e9 g0 g1 g2 g3 g4 g5 g6 g7 g8 g9
      have HPX := HP_
      have HQX := HQ_
      have HI := HI_
      have HZ := HZ_
      have HB := HB_
      have hHeld := HSW
      clear HP_ HQ_ HI_ HZ_ HB_ HSW
      simp only [List.setIfInBounds_toArray]
      refine wpAnyK_takeF (i := 15) (v := ?_) rfl rfl (by kernel_rfl) (fun _ _ _ h => h) (Or.inl ⟨by rfl, ?_⟩) ?_
      rotate_left
      · (intro V hV; go_simp; with_reducible rfl)
      try simp only [Act.put, List.setIfInBounds_toArray, List.set_cons_zero, List.set_cons_succ]
      refine wpAnyK_takeF (i := 16) (v := ?_) rfl rfl (by kernel_rfl) (fun _ _ _ h => h) (Or.inl ⟨by rfl, ?_⟩) ?_
      rotate_left
      · (intro V hV; go_simp; with_reducible rfl)
      try simp only [Act.put, List.setIfInBounds_toArray, List.set_cons_zero, List.set_cons_succ]
      refine wpAnyK_takeF (i := 17) (v := ?_) rfl rfl (by kernel_rfl) (fun _ _ _ h => h) (Or.inl ⟨by rfl, ?_⟩) ?_
      rotate_left
      · (intro V hV; go_simp; with_reducible rfl)
      try simp only [Act.put, List.setIfInBounds_toArray, List.set_cons_zero, List.set_cons_succ]
      refine wpAnyK_take (i := 18) (v := ?_) rfl rfl (by kernel_rfl) (fun _ _ _ h => h) (Or.inl ⟨by rfl, ?_⟩) (by assumption) ?_
      rotate_left
      · (intro V hV; (try dsimp only at hV); go_simp; with_reducible rfl)
      try simp only [Act.put, List.setIfInBounds_toArray, List.set_cons_zero, List.set_cons_succ]
      refine wpAnyK_take (i := 19) (v := ?_) rfl rfl (by kernel_rfl) (fun _ _ _ h => h) (Or.inl ⟨by rfl, ?_⟩) (by assumption) ?_
      rotate_left
      · (intro V hV; (try dsimp only at hV); go_simp; with_reducible rfl)
      try simp only [Act.put, List.setIfInBounds_toArray, List.set_cons_zero, List.set_cons_succ]
      refine wpAnyK_take (i := 20) (v := ?_) rfl rfl (by kernel_rfl) (fun _ _ _ h => h) (Or.inl ⟨by rfl, ?_⟩) (by assumption) ?_
      rotate_left
      · (intro V hV; (try dsimp only at hV); go_simp; with_reducible rfl)
      try simp only [Act.put, List.setIfInBounds_toArray, List.set_cons_zero, List.set_cons_succ]
      refine wpAnyK_take (i := 21) (v := ?_) rfl rfl (by kernel_rfl) (fun _ _ _ h => h) (Or.inl ⟨by rfl, ?_⟩) (by assumption) ?_
      rotate_left
      · (intro V hV; (try dsimp only at hV); go_simp; with_reducible rfl)
      try simp only [Act.put, List.setIfInBounds_toArray, List.set_cons_zero, List.set_cons_succ]
      refine wpAnyK_take (i := 22) (v := ?_) rfl rfl (by kernel_rfl) (fun _ _ _ h => h) (Or.inl ⟨by rfl, ?_⟩) (by assumption) ?_
      rotate_left
      · (intro V hV; (try dsimp only at hV); go_simp; with_reducible rfl)
      try simp only [Act.put, List.setIfInBounds_toArray, List.set_cons_zero, List.set_cons_succ]
      refine wpAnyK_take (i := 23) (v := ?_) rfl rfl (by kernel_rfl) (fun _ _ _ h => h) (Or.inl ⟨by rfl, ?_⟩) (by assumption) ?_
      rotate_left
      · (intro V hV; (try dsimp only at hV); go_simp; with_reducible rfl)
      try simp only [Act.put, List.setIfInBounds_toArray, List.set_cons_zero, List.set_cons_succ]
      refine wpAnyK_take (i := 24) (v := ?_) rfl rfl (by kernel_rfl) (fun _ _ _ h => h) (Or.inl ⟨by rfl, ?_⟩) (by assumption) ?_
      rotate_left
      · (intro V hV; (try dsimp only at hV); go_simp; with_reducible rfl)
      try simp only [Act.put, List.setIfInBounds_toArray, List.set_cons_zero, List.set_cons_succ]
      refine wpAnyK_take (i := 25) (v := ?_) rfl rfl (by kernel_rfl) (fun _ _ _ h => h) (Or.inl ⟨by rfl, ?_⟩) (by assumption) ?_
      rotate_left
      · (intro V hV; (try dsimp only at hV); go_simp; with_reducible rfl)
      try simp only [Act.put, List.setIfInBounds_toArray, List.set_cons_zero, List.set_cons_succ]
      refine wpAnyK_take (i := 26) (v := ?_) rfl rfl (by kernel_rfl) (fun _ _ _ h => h) (Or.inl ⟨by rfl, ?_⟩) (by assumption) ?_
      rotate_left
      · (intro V hV; (try dsimp only at hV); go_simp; with_reducible rfl)
      try simp only [Act.put, List.setIfInBounds_toArray, List.set_cons_zero, List.set_cons_succ]
      refine wpAnyK_take (i := 27) (v := ?_) rfl rfl (by kernel_rfl) (fun _ _ _ h => h) (Or.inl ⟨by rfl, ?_⟩) (by assumption) ?_
      rotate_left
      · (intro V hV; (try dsimp only at hV); go_simp; with_reducible rfl)
      try simp only [Act.put, List.setIfInBounds_toArray, List.set_cons_zero, List.set_cons_succ]
      refine wpAnyK_take (i := 28) (v := ?_) rfl rfl (by kernel_rfl) (fun _ _ _ h => h) (Or.inl ⟨by rfl, ?_⟩) (by assumption) ?_
      rotate_left
      · (intro V hV; (try dsimp only at hV); go_simp; with_reducible rfl)
      try simp only [Act.put, List.setIfInBounds_toArray, List.set_cons_zero, List.set_cons_succ]
      refine wpAnyK_step (i := 29) (by kernel_rfl) rfl rfl (fun K hK => ?_)
      go_simp
      refine (rbegin_any p.pid p.prog p.args p.env p.fds s.A s.an s.ac s.E s.en s.ec s.F s.fn s.fc w8 HI.out.a HI.out.e HI.out.f ⟨by omega, by omega, by omega⟩).mono ?_
      rintro e w9 ⟨y, rfl, hy, hb⟩
      have HP_ := hide (HPX.out.below hb HPX.out.lt)
      have HQ_ := hide (HQX.out.below hb HQX.out.lt)
      have HI_ := hide (in_on HI.out hb)
      have HZ_ := hide (in_on HZ.out hb)
      have HB_ := hide (HB.out.trans (hb.mono HB.out.size))
      have HY := hide hy
      clear hy
      obtain ⟨⟨e0, e1, e2, e3, e4, e5, e6, e7, e8, e9⟩, -⟩ := ten HP_.out
      obtain ⟨⟨g0, g1, g2, g3, g4, g5, g6, g7, g8, g9⟩, -⟩ := ten HQ_.out
      refine hK.out _ _ (fun _ _ => ⟨e0, e1, e2, e3, e4, g0, g1, g2, g3, g4, g5, g6, g7, g8, g9⟩) ?_
      have HSW : (fun V => V.cell? ⟨w.heap.size, 0, none⟩ = some (.int .i64 p.pid) ∧ V.cell? ⟨w.heap.size, 1, none⟩ = some (.string ⟨p.prog.toArray⟩) ∧ V.cell? ⟨w.heap.size, 2, none⟩ = some (.slice s.A s.an s.ac) ∧ V.cell? ⟨w.heap.size, 3, none⟩ = some (.slice s.E s.en s.ec) ∧ V.cell? ⟨w.heap.size, 4, none⟩ = some (.slice s.F s.fn s.fc) ∧ V.cell? ⟨w5.heap.size, 0, none⟩ = some (.int .i64 p.pid) ∧ V.cell? ⟨w5.heap.size, 1, none⟩ = some (.string ⟨p.prog.toArray⟩) ∧ V.cell? ⟨w5.heap.size, 2, none⟩ = some (.slice z.A z.an z.ac) ∧ V.cell? ⟨w5.heap.size, 3, none⟩ = some (.slice z.E z.en z.ec) ∧ V.cell? ⟨w5.heap.size, 4, none⟩ = some (.slice z.F z.fn z.fc) ∧ V.cell? ⟨w5.heap.size, 5, none⟩ = some (.bool false) ∧ V.cell? ⟨w5.heap.size, 6, none⟩ = some (.int .i64 0) ∧ V.cell? ⟨w5.heap.size, 7, none⟩ = some (.int .i64 0) ∧ V.cell? ⟨w5.heap.size, 8, none⟩ = some (.int .i64 0) ∧ V.cell? ⟨w5.heap.size, 9, none⟩ = some (.slice z.D z.dn z.dc)) w9 := ⟨e0, e1, e2, e3, e4, g0, g1, g2, g3, g4, g5, g6, g7, g8, g9⟩
      clear hK K hb HPX HQX HI HZ HB hHeld e0 e1 e2 e3 e4 e5 e6 e7 e8 e9 g0 g1 g2 g3 g4 g5 g6 g7 g8 g9
      have HPX := HP_
      have HQX := HQ_
      have HI := HI_
      have HZ := HZ_
      have HB := HB_
      have hHeld := HSW
      clear HP_ HQ_ HI_ HZ_ HB_ HSW
      simp only [List.setIfInBounds_toArray]
      refine wpAnyK_step (i := 30) (by kernel_rfl) rfl rfl (fun K hK => ?_)
      go_simp
      refine (rproc_eq (bornP p.pid p.prog p.args p.env p.fds) z y w9 HZ.out HY.out hfit.out).mono ?_
      rintro e w10 ⟨rfl, hb⟩
      have HP_ := hide (HPX.out.below hb HPX.out.lt)
      have HQ_ := hide (HQX.out.below hb HQX.out.lt)
      have HI_ := hide (in_on HI.out hb)
      have HZ_ := hide (in_on HZ.out hb)
      have HB_ := hide (HB.out.trans (hb.mono HB.out.size))
      clear HY
      obtain ⟨⟨e0, e1, e2, e3, e4, e5, e6, e7, e8, e9⟩, -⟩ := ten HP_.out
      obtain ⟨⟨g0, g1, g2, g3, g4, g5, g6, g7, g8, g9⟩, -⟩ := ten HQ_.out
      refine hK.out _ _ (fun _ _ => ⟨e0, e1, e2, e3, e4, g0, g1, g2, g3, g4, g5, g6, g7, g8, g9⟩) ?_
      have HSW : (fun V => V.cell? ⟨w.heap.size, 0, none⟩ = some (.int .i64 p.pid) ∧ V.cell? ⟨w.heap.size, 1, none⟩ = some (.string ⟨p.prog.toArray⟩) ∧ V.cell? ⟨w.heap.size, 2, none⟩ = some (.slice s.A s.an s.ac) ∧ V.cell? ⟨w.heap.size, 3, none⟩ = some (.slice s.E s.en s.ec) ∧ V.cell? ⟨w.heap.size, 4, none⟩ = some (.slice s.F s.fn s.fc) ∧ V.cell? ⟨w5.heap.size, 0, none⟩ = some (.int .i64 p.pid) ∧ V.cell? ⟨w5.heap.size, 1, none⟩ = some (.string ⟨p.prog.toArray⟩) ∧ V.cell? ⟨w5.heap.size, 2, none⟩ = some (.slice z.A z.an z.ac) ∧ V.cell? ⟨w5.heap.size, 3, none⟩ = some (.slice z.E z.en z.ec) ∧ V.cell? ⟨w5.heap.size, 4, none⟩ = some (.slice z.F z.fn z.fc) ∧ V.cell? ⟨w5.heap.size, 5, none⟩ = some (.bool false) ∧ V.cell? ⟨w5.heap.size, 6, none⟩ = some (.int .i64 0) ∧ V.cell? ⟨w5.heap.size, 7, none⟩ = some (.int .i64 0) ∧ V.cell? ⟨w5.heap.size, 8, none⟩ = some (.int .i64 0) ∧ V.cell? ⟨w5.heap.size, 9, none⟩ = some (.slice z.D z.dn z.dc)) w10 := ⟨e0, e1, e2, e3, e4, g0, g1, g2, g3, g4, g5, g6, g7, g8, g9⟩
      clear hK K hb HPX HQX HI HZ HB hHeld e0 e1 e2 e3 e4 e5 e6 e7 e8 e9 g0 g1 g2 g3 g4 g5 g6 g7 g8 g9
      have HPX := HP_
      have HQX := HQ_
      have HI := HI_
      have HZ := HZ_
      have HB := HB_
      have hHeld := HSW
      clear HP_ HQ_ HI_ HZ_ HB_ HSW
      simp only [List.setIfInBounds_toArray]
      refine wpAnyK_takeF (i := 31) (v := ?_) rfl rfl (by kernel_rfl) (fun _ _ _ h => h) (Or.inl ⟨by rfl, ?_⟩) ?_
      rotate_left
      · (intro V hV; go_simp; with_reducible rfl)
      try simp only [Act.put, List.setIfInBounds_toArray, List.set_cons_zero, List.set_cons_succ]
      refine wpAnyK_takeF (i := 32) (v := ?_) rfl rfl (by kernel_rfl) (fun _ _ _ h => h) (Or.inl ⟨by rfl, ?_⟩) ?_
      rotate_left
      · (intro V hV; go_simp; with_reducible rfl)
      try simp only [Act.put, List.setIfInBounds_toArray, List.set_cons_zero, List.set_cons_succ]
      refine wpAnyK_take (i := 33) (v := ?_) rfl rfl (by kernel_rfl) (fun _ _ _ h => h) (Or.inl ⟨by rfl, ?_⟩) (by assumption) ?_
      rotate_left
      · (intro V hV; (try dsimp only at hV); go_simp; with_reducible rfl)
      try simp only [Act.put, List.setIfInBounds_toArray, List.set_cons_zero, List.set_cons_succ]
      refine wpAnyK_take (i := 34) (v := ?_) rfl rfl (by kernel_rfl) (fun _ _ _ h => h) (Or.inl ⟨by rfl, ?_⟩) (by assumption) ?_
      rotate_left
      · (intro V hV; (try dsimp only at hV); go_simp; with_reducible rfl)
      try simp only [Act.put, List.setIfInBounds_toArray, List.set_cons_zero, List.set_cons_succ]
      refine wpAnyK_take (i := 35) (v := ?_) rfl rfl (by kernel_rfl) (fun _ _ _ h => h) (Or.inl ⟨by rfl, ?_⟩) (by assumption) ?_
      rotate_left
      · (intro V hV; (try dsimp only at hV); go_simp; with_reducible rfl)
      try simp only [Act.put, List.setIfInBounds_toArray, List.set_cons_zero, List.set_cons_succ]
      refine wpAnyK_take (i := 36) (v := ?_) rfl rfl (by kernel_rfl) (fun _ _ _ h => h) (Or.inl ⟨by rfl, ?_⟩) (by assumption) ?_
      rotate_left
      · (intro V hV; (try dsimp only at hV); go_simp; with_reducible rfl)
      try simp only [Act.put, List.setIfInBounds_toArray, List.set_cons_zero, List.set_cons_succ]
      refine wpAnyK_step (i := 37) (by kernel_rfl) rfl rfl (fun K hK => ?_)
      go_simp
      refine (texts_eq p.args z.A s.A z.an z.ac s.an s.ac w10 HZ.out.a HI.out.a (by have := rd_lenS HZ.out.a; have := HL.out; show z.an ≤ _; simp only [bornP] at *; omega)).mono ?_
      rintro e w11 ⟨rfl, hb⟩
      have HP_ := hide (HPX.out.below hb HPX.out.lt)
      have HQ_ := hide (HQX.out.below hb HQX.out.lt)
      have HI_ := hide (in_on HI.out hb)
      have HZ_ := hide (in_on HZ.out hb)
      have HB_ := hide (HB.out.trans (hb.mono HB.out.size))
      (skip)
      obtain ⟨⟨e0, e1, e2, e3, e4, e5, e6, e7, e8, e9⟩, -⟩ := ten HP_.out
      obtain ⟨⟨g0, g1, g2, g3, g4, g5, g6, g7, g8, g9⟩, -⟩ := ten HQ_.out
      refine hK.out _ _ (fun _ _ => ⟨e0, e1, e2, e3, e4, g0, g1, g2, g3, g4, g5, g6, g7, g8, g9⟩) ?_
      have HSW : (fun V => V.cell? ⟨w.heap.size, 0, none⟩ = some (.int .i64 p.pid) ∧ V.cell? ⟨w.heap.size, 1, none⟩ = some (.string ⟨p.prog.toArray⟩) ∧ V.cell? ⟨w.heap.size, 2, none⟩ = some (.slice s.A s.an s.ac) ∧ V.cell? ⟨w.heap.size, 3, none⟩ = some (.slice s.E s.en s.ec) ∧ V.cell? ⟨w.heap.size, 4, none⟩ = some (.slice s.F s.fn s.fc) ∧ V.cell? ⟨w5.heap.size, 0, none⟩ = some (.int .i64 p.pid) ∧ V.cell? ⟨w5.heap.size, 1, none⟩ = some (.string ⟨p.prog.toArray⟩) ∧ V.cell? ⟨w5.heap.size, 2, none⟩ = some (.slice z.A z.an z.ac) ∧ V.cell? ⟨w5.heap.size, 3, none⟩ = some (.slice z.E z.en z.ec) ∧ V.cell? ⟨w5.heap.size, 4, none⟩ = some (.slice z.F z.fn z.fc) ∧ V.cell? ⟨w5.heap.size, 5, none⟩ = some (.bool false) ∧ V.cell? ⟨w5.heap.size, 6, none⟩ = some (.int .i64 0) ∧ V.cell? ⟨w5.heap.size, 7, none⟩ = some (.int .i64 0) ∧ V.cell? ⟨w5.heap.size, 8, none⟩ = some (.int .i64 0) ∧ V.cell? ⟨w5.heap.size, 9, none⟩ = some (.slice z.D z.dn z.dc)) w11 := ⟨e0, e1, e2, e3, e4, g0, g1, g2, g3, g4, g5, g6, g7, g8, g9⟩
      clear hK K hb HPX HQX HI HZ HB hHeld e0 e1 e2 e3 e4 e5 e6 e7 e8 e9 g0 g1 g2 g3 g4 g5 g6 g7 g8 g9
      have HPX := HP_
      have HQX := HQ_
      have HI := HI_
      have HZ := HZ_
      have HB := HB_
      have hHeld := HSW
      clear HP_ HQ_ HI_ HZ_ HB_ HSW
      simp only [List.setIfInBounds_toArray]
      refine wpAnyK_takeF (i := 38) (v := ?_) rfl rfl (by kernel_rfl) (fun _ _ _ h => h) (Or.inl ⟨by rfl, ?_⟩) ?_
      rotate_left
      · (intro V hV; go_simp; with_reducible rfl)
      try simp only [Act.put, List.setIfInBounds_toArray, List.set_cons_zero, List.set_cons_succ]
      refine wpAnyK_takeF (i := 39) (v := ?_) rfl rfl (by kernel_rfl) (fun _ _ _ h => h) (Or.inl ⟨by rfl, ?_⟩) ?_
      rotate_left
      · (intro V hV; go_simp; with_reducible rfl)
      try simp only [Act.put, List.setIfInBounds_toArray, List.set_cons_zero, List.set_cons_succ]
      refine wpAnyK_step (i := 40) (by kernel_rfl) rfl rfl (fun K hK => ?_)
      go_simp
      refine (XH.out w11 HB.out).mono ?_
      rintro e w12 ⟨rfl, hb⟩
      have HP_ := hide (HPX.out.below hb HPX.out.lt)
      have HQ_ := hide (HQX.out.below hb HQX.out.lt)
      have HI_ := hide (in_on HI.out hb)
      have HZ_ := hide (in_on HZ.out hb)
      have HB_ := hide (HB.out.trans (hb.mono HB.out.size))
      (skip)
      obtain ⟨⟨e0, e1, e2, e3, e4, e5, e6, e7, e8, e9⟩, -⟩ := ten HP_.out
      obtain ⟨⟨g0, g1, g2, g3, g4, g5, g6, g7, g8, g9⟩, -⟩ := ten HQ_.out
      refine hK.out _ _ (fun _ _ => ⟨e0, e1, e2, e3, e4, g0, g1, g2, g3, g4, g5, g6, g7, g8, g9⟩) ?_
      have HSW : (fun V => V.cell? ⟨w.heap.size, 0, none⟩ = some (.int .i64 p.pid) ∧ V.cell? ⟨w.heap.size, 1, none⟩ = some (.string ⟨p.prog.toArray⟩) ∧ V.cell? ⟨w.heap.size, 2, none⟩ = some (.slice s.A s.an s.ac) ∧ V.cell? ⟨w.heap.size, 3, none⟩ = some (.slice s.E s.en s.ec) ∧ V.cell? ⟨w.heap.size, 4, none⟩ = some (.slice s.F s.fn s.fc) ∧ V.cell? ⟨w5.heap.size, 0, none⟩ = some (.int .i64 p.pid) ∧ V.cell? ⟨w5.heap.size, 1, none⟩ = some (.string ⟨p.prog.toArray⟩) ∧ V.cell? ⟨w5.heap.size, 2, none⟩ = some (.slice z.A z.an z.ac) ∧ V.cell? ⟨w5.heap.size, 3, none⟩ = some (.slice z.E z.en z.ec) ∧ V.cell? ⟨w5.heap.size, 4, none⟩ = some (.slice z.F z.fn z.fc) ∧ V.cell? ⟨w5.heap.size, 5, none⟩ = some (.bool false) ∧ V.cell? ⟨w5.heap.size, 6, none⟩ = some (.int .i64 0) ∧ V.cell? ⟨w5.heap.size, 7, none⟩ = some (.int .i64 0) ∧ V.cell? ⟨w5.heap.size, 8, none⟩ = some (.int .i64 0) ∧ V.cell? ⟨w5.heap.size, 9, none⟩ = some (.slice z.D z.dn z.dc)) w12 := ⟨e0, e1, e2, e3, e4, g0, g1, g2, g3, g4, g5, g6, g7, g8, g9⟩
      clear hK K hb HPX HQX HI HZ HB hHeld e0 e1 e2 e3 e4 e5 e6 e7 e8 e9 g0 g1 g2 g3 g4 g5 g6 g7 g8 g9
      have HPX := HP_
      have HQX := HQ_
      have HI := HI_
      have HZ := HZ_
      have HB := HB_
      have hHeld := HSW
      clear HP_ HQ_ HI_ HZ_ HB_ HSW
      simp only [List.setIfInBounds_toArray]
      refine wpAnyK_takeF (i := 41) (v := ?_) rfl rfl (by kernel_rfl) (fun _ _ _ h => h) (Or.inl ⟨by rfl, ?_⟩) ?_
      rotate_left
      · (intro V hV; go_simp; with_reducible rfl)
      try simp only [Act.put, List.setIfInBounds_toArray, List.set_cons_zero, List.set_cons_succ]
      refine wpAnyK_step (i := 42) (by kernel_rfl) rfl rfl (fun K hK => ?_)
      go_simp
      refine hK.out _ _ (fun h _ => h) ?_
      clear hK K
      simp only [List.setIfInBounds_toArray]
      refine wpAnyK_done (by kernel_rfl) ?_ _
      (try simp only [Exit.then])
      clear XH hHeld
      go_wp2_with fail
      go_ret
      exact ⟨rfl, HB.out⟩
    · have hn3b : (300 : Int) < (n : Int) := by omega
      have X := hide (XH.out w2 HB2.out)
      clear XH hfb
      go_wp2_with fail
      refine X.out.mono ?_
      rintro e w3 ⟨rfl, hb⟩
      have HB3 := hide (HB2.out.trans (hb.mono HB2.out.size))
      clear hb X
      go_wp2_with fail
      go_ret
      exact ⟨rfl, HB3.out⟩
end Go.Proofs.YtlkccboongnneaaGreatDoor
