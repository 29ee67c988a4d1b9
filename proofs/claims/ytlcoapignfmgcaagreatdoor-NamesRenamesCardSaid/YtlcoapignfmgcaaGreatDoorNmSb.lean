/- The document's Same at two file systems with the same nodes. -/
import Derived.Test.YtlcoapignfmgcaaGreatDoorNmSa
namespace Go.Proofs.YtlcoapignfmgcaaGreatDoor
open Go.RowKit
set_option linter.unusedVariables false
theorem nds_get {X Y : List DV} (h : nds X = nds Y) {i : Nat} {x y : DV} (hx : X[i]? = some x) (hy : Y[i]? = some y) : x.r = y.r := by
  have h1 := nds_at hx
  have h2 := nds_at hy
  rw [h] at h1
  exact h1.symm.trans h2
set_option maxRecDepth 100000 in
set_option maxHeartbeats 16000000 in
theorem rsame_any (L1 L2 : Option Addr) (n c1 c2 : Nat) (X Y : List DV) (w : World) (h1 : FsR w w.heap.size L1 n X) (h2 : FsR w w.heap.size L2 n Y) (hXY : nds X = nds Y) (hn : n ≤ 1000000) (hs : ∀ x ∈ X, x.mn ≤ 1000000) :
    Calls Tryz.prog 15 #[.agg #[.slice L1 n c1], .agg #[.slice L2 n c2]] w fun e w' => e = .returned (.bool true) ∧ Below w.heap.size w w' := by
  obtain ⟨W1, hW1⟩ : ∃ W, w.alloc (.cells #[.slice L1 n c1] 24) = W := ⟨_, rfl⟩
  have b1 : Below w.heap.size w W1 := by rw [← hW1]; exact on_alloc _ _
  have k1 : Blk W1 w.heap.size 24 #[.slice L1 n c1] := by rw [← hW1]; exact Blk.new w _ _
  have s1 : W1.heap.size = w.heap.size + 1 := by rw [← hW1]; simp
  obtain ⟨W2, hW2⟩ : ∃ W, W1.alloc (.cells #[.slice L2 n c2] 24) = W := ⟨_, rfl⟩
  have b2 : Below W1.heap.size W1 W2 := by rw [← hW2]; exact on_alloc _ _
  have k2 : Blk W2 (w.heap.size + 1) 24 #[.slice L2 n c2] := by rw [← hW2, ← s1]; exact Blk.new W1 _ _
  have bA : Below w.heap.size w W2 := b1.trans (b2.mono (by omega))
  have HK1 := hide (k1.below b2 (by omega))
  have HK2 := hide k2
  have HB := hide bA
  have HF1 := hide h1
  have HF2 := hide h2
  have HXY := hide hXY
  have HSM := hide hs
  have k0 := one_ HK1.out
  have k9 := one_ HK2.out
  have kl := HK1.out.lt
  have kl2 := HK2.out.lt
  clear h1 h2 b1 k1 b2 k2 bA hXY hs
  go_enter Tryz.func15, Tryz.ntmps15
  go_wp2_with fail
  clear hW1 hW2 k0 k9 kl kl2 s1
  go_loopw [5] (fun u5 wx => ∃ i : Nat, i ≤ n ∧ u5 = .int .i64 (i : Int) ∧ Hid (Below w.heap.size w wx) ∧ Hid (Blk wx w.heap.size 24 #[.slice L1 n c1]) ∧ Hid (Blk wx (w.heap.size + 1) 24 #[.slice L2 n c2])) (fun i _ => n - (intOf i).toNat)
  case atStart => exact ⟨0, Nat.zero_le _, rfl, HB, HK1, HK2⟩
  case round =>
    clear HB HK1 HK2
    obtain ⟨i, hi, rfl, HB, HK1, HK2⟩ := hrel
    have k0 := one_ HK1.out
    have k9 := one_ HK2.out
    have kl := HK1.out.lt
    have kl2 := HK2.out.lt
    by_cases hin : i < n
    · have hlt : (i : Int) < (n : Int) := by omega
      obtain ⟨g1, o1, x1, rfl, hg1, hx1, hok1, hc1⟩ := HF1.out.at_ hin
      obtain ⟨g2, o2, x2, rfl, hg2, hx2, hok2, hc2⟩ := HF2.out.at_ hin
      have hrr := nds_get HXY.out hx1 hx2
      have hsm := HSM.out x1 (List.mem_of_getElem? hx1)
      obtain ⟨⟨kd, md, li, da, na, tx⟩, D1, n1, e1, M1, m1, f1⟩ := x1
      obtain ⟨r2, D2, n2, e2, M2, m2, f2⟩ := x2
      dsimp only at hrr hsm
      subst hrr
      have hdl1 := hok1.dl
      have hdl2 := hok2.dl
      have hnl1 := hok1.nl
      have hnl2 := hok2.nl
      dsimp only at hdl1 hdl2 hnl1 hnl2
      obtain rfl : n1 = n2 := by omega
      obtain rfl : m1 = m2 := by omega
      have HOK1 := hide hok1
      have HOK2 := hide hok2
      have HC1 := hide (fun (V : World) (hV : Below w.heap.size w V) => NdCells.below hc1 hg1 hV)
      have HC2 := hide (fun (V : World) (hV : Below w.heap.size w V) => NdCells.below hc2 hg2 hV)
      have HG1 : Hid (g1 < wr.heap.size ∧ g2 < wr.heap.size) := hide (by have := HB.out.size; omega)
      have i1 := fun W => nd_at g1 o1 n c1 i (i : Int) rfl hin W
      have i2 := fun W => nd_at g2 o2 n c2 i (i : Int) rfl hin W
      clear hc1 hc2 hok1 hok2 hx1 hx2 hdl1 hdl2 hnl1 hnl2
      go_upto_region 6 with (fail)
      go_cut [6, 7] (fun u6 u7 wx => ∃ a b : Nat, u6 = .pointer (some ⟨a, 0, none⟩) ∧ u7 = .pointer (some ⟨b, 0, none⟩) ∧ Hid (Blk wx a 28 #[Value.int .i64 kd, .int .i64 md, .int .i64 li, .slice D1 n1 e1, .slice M1 m1 f1, .string ⟨tx.toArray⟩]) ∧ Hid (Blk wx b 28 #[Value.int .i64 kd, .int .i64 md, .int .i64 li, .slice D2 n1 e2, .slice M2 m1 f2, .string ⟨tx.toArray⟩]) ∧ Hid (Below wr.heap.size wr wx))
      case first =>
        have HSB : Hid (∀ V, Below wr.heap.size wr V → (fun V' : World => V'.cell? ⟨w.heap.size, 0, none⟩ = some (.slice (some ⟨g1, o1, none⟩) n c1) ∧ V'.cell? ⟨w.heap.size + 1, 0, none⟩ = some (.slice (some ⟨g2, o2, none⟩) n c2) ∧ V'.cell? ⟨g1, o1 + i * 6, none⟩ = some (.int .i64 kd) ∧ V'.cell? ⟨g1, o1 + i * 6 + 1, none⟩ = some (.int .i64 md) ∧ V'.cell? ⟨g1, o1 + i * 6 + 2, none⟩ = some (.int .i64 li) ∧ V'.cell? ⟨g1, o1 + i * 6 + 3, none⟩ = some (.slice D1 n1 e1) ∧ V'.cell? ⟨g1, o1 + i * 6 + 4, none⟩ = some (.slice M1 m1 f1) ∧ V'.cell? ⟨g1, o1 + i * 6 + 5, none⟩ = some (.string ⟨tx.toArray⟩) ∧ V'.cell? ⟨g2, o2 + i * 6, none⟩ = some (.int .i64 kd) ∧ V'.cell? ⟨g2, o2 + i * 6 + 1, none⟩ = some (.int .i64 md) ∧ V'.cell? ⟨g2, o2 + i * 6 + 2, none⟩ = some (.int .i64 li) ∧ V'.cell? ⟨g2, o2 + i * 6 + 3, none⟩ = some (.slice D2 n1 e2) ∧ V'.cell? ⟨g2, o2 + i * 6 + 4, none⟩ = some (.slice M2 m1 f2) ∧ V'.cell? ⟨g2, o2 + i * 6 + 5, none⟩ = some (.string ⟨tx.toArray⟩)) V) := hide (fun V hV => by
          obtain ⟨d0, d1, d2, d3, d4, d5⟩ := HC1.out V (below_more HB.out (by have := HB.out.size; omega) hV)
          obtain ⟨e0, e1, e2, e3, e4, e5⟩ := HC2.out V (below_more HB.out (by have := HB.out.size; omega) hV)
          exact ⟨one_ (HK1.out.below hV HK1.out.lt), one_ (HK2.out.below hV HK2.out.lt), d0, d1, d2, d3, d4, d5, e0, e1, e2, e3, e4, e5⟩)
        refine wp_region_K (fun V' : World => V'.cell? ⟨w.heap.size, 0, none⟩ = some (.slice (some ⟨g1, o1, none⟩) n c1) ∧ V'.cell? ⟨w.heap.size + 1, 0, none⟩ = some (.slice (some ⟨g2, o2, none⟩) n c2) ∧ V'.cell? ⟨g1, o1 + i * 6, none⟩ = some (.int .i64 kd) ∧ V'.cell? ⟨g1, o1 + i * 6 + 1, none⟩ = some (.int .i64 md) ∧ V'.cell? ⟨g1, o1 + i * 6 + 2, none⟩ = some (.int .i64 li) ∧ V'.cell? ⟨g1, o1 + i * 6 + 3, none⟩ = some (.slice D1 n1 e1) ∧ V'.cell? ⟨g1, o1 + i * 6 + 4, none⟩ = some (.slice M1 m1 f1) ∧ V'.cell? ⟨g1, o1 + i * 6 + 5, none⟩ = some (.string ⟨tx.toArray⟩) ∧ V'.cell? ⟨g2, o2 + i * 6, none⟩ = some (.int .i64 kd) ∧ V'.cell? ⟨g2, o2 + i * 6 + 1, none⟩ = some (.int .i64 md) ∧ V'.cell? ⟨g2, o2 + i * 6 + 2, none⟩ = some (.int .i64 li) ∧ V'.cell? ⟨g2, o2 + i * 6 + 3, none⟩ = some (.slice D2 n1 e2) ∧ V'.cell? ⟨g2, o2 + i * 6 + 4, none⟩ = some (.slice M2 m1 f2) ∧ V'.cell? ⟨g2, o2 + i * 6 + 5, none⟩ = some (.string ⟨tx.toArray⟩)) [13] rfl (HSB.out _ (bl_drewN (n := 1) (Below.refl _ _))) (fun hHeld => ?_)
        refine wpAnyK_take (i := 0) (v := ?_) rfl rfl (by kernel_rfl) (fun _ _ _ h => h) (Or.inl ⟨by rfl, ?_⟩) (by assumption) ?_
        rotate_left
        · (intro V hV; (try dsimp only at hV); go_simp; with_reducible rfl)
        try simp only [Act.put, List.setIfInBounds_toArray, List.set_cons_zero, List.set_cons_succ]
        refine wpAnyK_take (i := 1) (v := ?_) rfl rfl (by kernel_rfl) (fun _ _ _ h => h) (Or.inl ⟨by rfl, ?_⟩) (by assumption) ?_
        rotate_left
        · (intro V hV; (try dsimp only at hV); go_simp; with_reducible rfl)
        try simp only [Act.put, List.setIfInBounds_toArray, List.set_cons_zero, List.set_cons_succ]
        refine wpAnyK_take (i := 2) (v := ?_) rfl rfl (by kernel_rfl) (fun _ _ _ h => h) (Or.inl ⟨by rfl, ?_⟩) (by assumption) ?_
        rotate_left
        · (intro V hV; (try dsimp only at hV); go_simp; with_reducible rfl)
        try simp only [Act.put, List.setIfInBounds_toArray, List.set_cons_zero, List.set_cons_succ]
        refine wpAnyK_take (i := 3) (v := ?_) rfl rfl (by kernel_rfl) (fun _ _ _ h => h) (Or.inl ⟨by rfl, ?_⟩) (by assumption) ?_
        rotate_left
        · (intro V hV; (try dsimp only at hV); go_simp; with_reducible rfl)
        try simp only [Act.put, List.setIfInBounds_toArray, List.set_cons_zero, List.set_cons_succ]
        refine wpAnyK_take (i := 4) (v := ?_) rfl rfl (by kernel_rfl) (fun _ _ _ h => h) (Or.inl ⟨by rfl, ?_⟩) (by assumption) ?_
        rotate_left
        · (intro V hV; (try dsimp only at hV); go_simp; with_reducible rfl)
        try simp only [Act.put, List.setIfInBounds_toArray, List.set_cons_zero, List.set_cons_succ]
        refine wpAnyK_take (i := 5) (v := ?_) rfl rfl (by kernel_rfl) (fun _ _ _ h => h) (Or.inl ⟨by rfl, ?_⟩) (by assumption) ?_
        rotate_left
        · (intro V hV; (try dsimp only at hV); go_simp; with_reducible rfl)
        try simp only [Act.put, List.setIfInBounds_toArray, List.set_cons_zero, List.set_cons_succ]
        refine wpAnyK_take (i := 6) (v := ?_) rfl rfl (by kernel_rfl) (fun _ _ _ h => h) (Or.inl ⟨by rfl, ?_⟩) (by assumption) ?_
        rotate_left
        · (intro V hV; (try dsimp only at hV); go_simp; with_reducible rfl)
        try simp only [Act.put, List.setIfInBounds_toArray, List.set_cons_zero, List.set_cons_succ]
        refine wpAnyK_take (i := 7) (v := ?_) rfl rfl (by kernel_rfl) (fun _ _ _ h => h) (Or.inl ⟨by rfl, ?_⟩) (by assumption) ?_
        rotate_left
        · (intro V hV; (try dsimp only at hV); go_simp; with_reducible rfl)
        try simp only [Act.put, List.setIfInBounds_toArray, List.set_cons_zero, List.set_cons_succ]
        refine wpAnyK_take (i := 8) (v := ?_) rfl rfl (by kernel_rfl) (fun _ _ _ h => h) (Or.inl ⟨by rfl, ?_⟩) (by assumption) ?_
        rotate_left
        · (intro V hV; (try dsimp only at hV); go_simp; with_reducible rfl)
        try simp only [Act.put, List.setIfInBounds_toArray, List.set_cons_zero, List.set_cons_succ]
        refine wpAnyK_take (i := 9) (v := ?_) rfl rfl (by kernel_rfl) (fun _ _ _ h => h) (Or.inl ⟨by rfl, ?_⟩) (by assumption) ?_
        rotate_left
        · (intro V hV; (try dsimp only at hV); go_simp; with_reducible rfl)
        try simp only [Act.put, List.setIfInBounds_toArray, List.set_cons_zero, List.set_cons_succ]
        obtain ⟨wd, hwd⟩ : ∃ W, World.drew wr = W := ⟨_, rfl⟩
        have hdr : Below wr.heap.size wr wd := by rw [← hwd]; exact bl_drewN (n := 1) (Below.refl _ _)
        rw [hwd] at hHeld ⊢
        clear hwd
        refine wpAnyK_two (i := 10) (j := 11) (by kernel_rfl) rfl rfl rfl rfl (fun K hK => ?_) (fun K hK => ?_)
        · go_simp
          have hb1 : Below wr.heap.size wr (wd.alloc (.cells #[Value.int .i64 0, .int .i64 0, .int .i64 0, .slice none 0 0, .slice none 0 0, .string ⟨#[]⟩] 28)) := hdr.trans ((on_alloc _ _).mono hdr.size)
          refine hK.out _ _ (fun _ _ => HSB.out _ hb1) ?_
          clear hK K hHeld
          simp only [List.setIfInBounds_toArray]
          refine wpAnyK_step (i := 11) (by kernel_rfl) rfl rfl (fun K hK => ?_)
          go_simp
          have hb2 : Below wr.heap.size wr ((wd.alloc (.cells #[Value.int .i64 0, .int .i64 0, .int .i64 0, .slice none 0 0, .slice none 0 0, .string ⟨#[]⟩] 28)).alloc (.cells #[Value.int .i64 0, .int .i64 0, .int .i64 0, .slice none 0 0, .slice none 0 0, .string ⟨#[]⟩] 28)) := hb1.trans ((on_alloc _ _).mono hb1.size)
          refine hK.out _ _ (fun _ _ => HSB.out _ hb2) ?_
          clear hK K
          simp only [List.setIfInBounds_toArray]
          refine wpAnyK_step (i := 12) (by kernel_rfl) rfl rfl (fun K hK => ?_)
          go_simp
          have hb3 : Below wr.heap.size wr ((wd.alloc (.cells #[Value.int .i64 kd, .int .i64 md, .int .i64 li, .slice D1 n1 e1, .slice M1 m1 f1, .string ⟨tx.toArray⟩] 28)).alloc (.cells #[Value.int .i64 0, .int .i64 0, .int .i64 0, .slice none 0 0, .slice none 0 0, .string ⟨#[]⟩] 28)) := (hdr.trans ((on_alloc _ _).mono hdr.size)).trans ((on_alloc _ _).mono (by have := hdr.size; simp; omega))
          refine hK.out _ _ (fun _ _ => HSB.out _ hb3) ?_
          clear hK K
          simp only [List.setIfInBounds_toArray]
          refine wpAnyK_step (i := 13) (by kernel_rfl) rfl rfl (fun K hK => ?_)
          go_simp
          refine hK.out _ _ (fun _ h => absurd (by simp) h) ?_
          clear hK K
          refine wpAnyK_done (by kernel_rfl) ?_ _
          (try simp only [Exit.then])
          have hz1 : Blk ((wd.alloc (.cells #[Value.int .i64 kd, .int .i64 md, .int .i64 li, .slice D1 n1 e1, .slice M1 m1 f1, .string ⟨tx.toArray⟩] 28)).alloc (.cells #[Value.int .i64 kd, .int .i64 md, .int .i64 li, .slice D2 n1 e2, .slice M2 m1 f2, .string ⟨tx.toArray⟩] 28)) wd.heap.size 28 #[Value.int .i64 kd, .int .i64 md, .int .i64 li, .slice D1 n1 e1, .slice M1 m1 f1, .string ⟨tx.toArray⟩] := (Blk.new wd _ _).alloc _
          have hz2 : Blk ((wd.alloc (.cells #[Value.int .i64 kd, .int .i64 md, .int .i64 li, .slice D1 n1 e1, .slice M1 m1 f1, .string ⟨tx.toArray⟩] 28)).alloc (.cells #[Value.int .i64 kd, .int .i64 md, .int .i64 li, .slice D2 n1 e2, .slice M2 m1 f2, .string ⟨tx.toArray⟩] 28)) (wd.heap.size + 1) 28 #[Value.int .i64 kd, .int .i64 md, .int .i64 li, .slice D2 n1 e2, .slice M2 m1 f2, .string ⟨tx.toArray⟩] := by
            have := Blk.new (wd.alloc (.cells #[Value.int .i64 kd, .int .i64 md, .int .i64 li, .slice D1 n1 e1, .slice M1 m1 f1, .string ⟨tx.toArray⟩] 28)) 28 #[Value.int .i64 kd, .int .i64 md, .int .i64 li, .slice D2 n1 e2, .slice M2 m1 f2, .string ⟨tx.toArray⟩]
            simpa using this
          have hb4 : Below wr.heap.size wr ((wd.alloc (.cells #[Value.int .i64 kd, .int .i64 md, .int .i64 li, .slice D1 n1 e1, .slice M1 m1 f1, .string ⟨tx.toArray⟩] 28)).alloc (.cells #[Value.int .i64 kd, .int .i64 md, .int .i64 li, .slice D2 n1 e2, .slice M2 m1 f2, .string ⟨tx.toArray⟩] 28)) := (hdr.trans ((on_alloc _ _).mono hdr.size)).trans ((on_alloc _ _).mono (by have := hdr.size; simp; omega))
          have HZ := hide (And.intro hz1 (And.intro hz2 hb4))
          clear hz1 hz2 hb4 hb1 hb2 hb3
          go_wp2_with fail
          go_meet
          exact ⟨_, _, rfl, rfl, hide HZ.out.1, hide HZ.out.2.1, hide HZ.out.2.2⟩
        · go_simp
          have hb1 : Below wr.heap.size wr (wd.alloc (.cells #[Value.int .i64 0, .int .i64 0, .int .i64 0, .slice none 0 0, .slice none 0 0, .string ⟨#[]⟩] 28)) := hdr.trans ((on_alloc _ _).mono hdr.size)
          refine hK.out _ _ (fun _ _ => HSB.out _ hb1) ?_
          clear hK K hHeld
          simp only [List.setIfInBounds_toArray]
          refine wpAnyK_step (i := 10) (by kernel_rfl) rfl rfl (fun K hK => ?_)
          go_simp
          have hb2 : Below wr.heap.size wr ((wd.alloc (.cells #[Value.int .i64 0, .int .i64 0, .int .i64 0, .slice none 0 0, .slice none 0 0, .string ⟨#[]⟩] 28)).alloc (.cells #[Value.int .i64 0, .int .i64 0, .int .i64 0, .slice none 0 0, .slice none 0 0, .string ⟨#[]⟩] 28)) := hb1.trans ((on_alloc _ _).mono hb1.size)
          refine hK.out _ _ (fun _ _ => HSB.out _ hb2) ?_
          clear hK K
          simp only [List.setIfInBounds_toArray]
          refine wpAnyK_step (i := 12) (by kernel_rfl) rfl rfl (fun K hK => ?_)
          go_simp
          have hb3 : Below wr.heap.size wr ((wd.alloc (.cells #[Value.int .i64 0, .int .i64 0, .int .i64 0, .slice none 0 0, .slice none 0 0, .string ⟨#[]⟩] 28)).alloc (.cells #[Value.int .i64 kd, .int .i64 md, .int .i64 li, .slice D1 n1 e1, .slice M1 m1 f1, .string ⟨tx.toArray⟩] 28)) := (hdr.trans ((on_alloc _ _).mono hdr.size)).trans ((on_alloc _ _).mono (by have := hdr.size; simp; omega))
          refine hK.out _ _ (fun _ _ => HSB.out _ hb3) ?_
          clear hK K
          simp only [List.setIfInBounds_toArray]
          refine wpAnyK_step (i := 13) (by kernel_rfl) rfl rfl (fun K hK => ?_)
          go_simp
          refine hK.out _ _ (fun _ h => absurd (by simp) h) ?_
          clear hK K
          refine wpAnyK_done (by kernel_rfl) ?_ _
          (try simp only [Exit.then])
          have hz1 : Blk ((wd.alloc (.cells #[Value.int .i64 kd, .int .i64 md, .int .i64 li, .slice D2 n1 e2, .slice M2 m1 f2, .string ⟨tx.toArray⟩] 28)).alloc (.cells #[Value.int .i64 kd, .int .i64 md, .int .i64 li, .slice D1 n1 e1, .slice M1 m1 f1, .string ⟨tx.toArray⟩] 28)) wd.heap.size 28 #[Value.int .i64 kd, .int .i64 md, .int .i64 li, .slice D2 n1 e2, .slice M2 m1 f2, .string ⟨tx.toArray⟩] := (Blk.new wd _ _).alloc _
          have hz2 : Blk ((wd.alloc (.cells #[Value.int .i64 kd, .int .i64 md, .int .i64 li, .slice D2 n1 e2, .slice M2 m1 f2, .string ⟨tx.toArray⟩] 28)).alloc (.cells #[Value.int .i64 kd, .int .i64 md, .int .i64 li, .slice D1 n1 e1, .slice M1 m1 f1, .string ⟨tx.toArray⟩] 28)) (wd.heap.size + 1) 28 #[Value.int .i64 kd, .int .i64 md, .int .i64 li, .slice D1 n1 e1, .slice M1 m1 f1, .string ⟨tx.toArray⟩] := by
            have := Blk.new (wd.alloc (.cells #[Value.int .i64 kd, .int .i64 md, .int .i64 li, .slice D2 n1 e2, .slice M2 m1 f2, .string ⟨tx.toArray⟩] 28)) 28 #[Value.int .i64 kd, .int .i64 md, .int .i64 li, .slice D1 n1 e1, .slice M1 m1 f1, .string ⟨tx.toArray⟩]
            simpa using this
          have hb4 : Below wr.heap.size wr ((wd.alloc (.cells #[Value.int .i64 kd, .int .i64 md, .int .i64 li, .slice D2 n1 e2, .slice M2 m1 f2, .string ⟨tx.toArray⟩] 28)).alloc (.cells #[Value.int .i64 kd, .int .i64 md, .int .i64 li, .slice D1 n1 e1, .slice M1 m1 f1, .string ⟨tx.toArray⟩] 28)) := (hdr.trans ((on_alloc _ _).mono hdr.size)).trans ((on_alloc _ _).mono (by have := hdr.size; simp; omega))
          have HZ := hide (And.intro hz1 (And.intro hz2 hb4))
          clear hz1 hz2 hb4 hb1 hb2 hb3
          go_wp2_with fail
          go_meet
          exact ⟨_, _, rfl, rfl, hide HZ.out.2.1, hide HZ.out.1, hide HZ.out.2.2⟩
      case rest =>
        obtain ⟨a, b, rfl, rfl, HA, HBB, HW⟩ := hcut
        have HB2 := hide (below_more HB.out (by have := HB.out.size; omega) HW.out)
        have HK1' := hide (HK1.out.below HW.out HK1.out.lt)
        have HK2' := hide (HK2.out.below HW.out HK2.out.lt)
        obtain ⟨a0, a1, a2, a3, a4, a5⟩ := six HA.out
        obtain ⟨b0, b1, b2, b3, b4, b5⟩ := six HBB.out
        have al := HA.out.lt
        have bl := HBB.out.lt
        have hR1 := ((HOK1.out.below HB2.out).more HB2.out.size)
        have hR2 := ((HOK2.out.below HB2.out).more HB2.out.size)
        have hcv1 : ∀ W, W = wc → (convert 25 9 (.slice D1 n1 e1)).run Tryz.prog W = .ok (.string ⟨da.toArray⟩) W := fun W e => by
          subst e
          exact run_string_of (P := Tryz.prog) W W.heap.size 25 9 5 D1 n1 e1 da Tryz.underlying25 Tryz.underlying5 Tryz.underlying9 hR1.d
        have hcv2 : ∀ W, W = wc → (convert 25 9 (.slice D2 n1 e2)).run Tryz.prog W = .ok (.string ⟨da.toArray⟩) W := fun W e => by
          subst e
          exact run_string_of (P := Tryz.prog) W W.heap.size 25 9 5 D2 n1 e2 da Tryz.underlying25 Tryz.underlying5 Tryz.underlying9 hR2.d
        have hv1 := hcv1 wc rfl
        have hv2 := hcv2 wc rfl
        have XN := hide (rnames_any M1 M2 m1 f1 f2 na wc hR1.n hR2.n hsm)
        clear hcv1 hcv2 hR1 hR2
        go_wp2_with fail
        with_reducible refine XN.out.mono ?_
        rintro e w6 ⟨rfl, hb⟩
        have HB6 := hide (below_more HB2.out (by have := HB2.out.size; omega) hb)
        have HK1'' := hide (HK1'.out.below hb HK1'.out.lt)
        have HK2'' := hide (HK2'.out.below hb HK2'.out.lt)
        clear hb a0 a1 a2 a3 a4 a5 b0 b1 b2 b3 b4 b5 hv1 hv2
        go_wp2_with fail
        go_roundw
        case rel => exact ⟨i + 1, by omega, by go_num, HB6, HK1'', HK2''⟩
        case measure => simp [intOf]; omega
    · have hlt : ¬ (i : Int) < (n : Int) := by omega
      go_wp2_with fail
      go_ret
      exact ⟨rfl, HB.out⟩
end Go.Proofs.YtlcoapignfmgcaaGreatDoor
