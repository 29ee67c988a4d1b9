/- The document's New; its Same at a root. -/
import Derived.Test.YtnhfpaobocbieaaNdQh
namespace Go.Proofs.Ytnhfpaobocbieaa
open Go.RowKit
set_option linter.unusedVariables false
set_option maxRecDepth 100000 in
set_option maxHeartbeats 4000000 in
theorem rnew_any (w : World) : Calls Try.prog 23 #[] w fun e w' => e = .returned (.agg #[.slice (some ⟨w.heap.size + 1, 0, none⟩) 1 1]) ∧ FsR w' w'.heap.size (some ⟨w.heap.size + 1, 0, none⟩) 1 [rootV] ∧ Below w.heap.size w w' := by
  go_enter Try.func23, Try.ntmps23
  go_wp2_with fail
  obtain ⟨W2, hW2⟩ : ∃ W, ((w.alloc (.cells #[.slice (some ⟨w.heap.size + 1, 0, none⟩) 1 1] 24)).alloc (.cells rootV.cs.toArray 49)) = W := ⟨_, rfl⟩
  have h1 : Blk W2 w.heap.size 24 #[.slice (some ⟨w.heap.size + 1, 0, none⟩) 1 1] := by rw [← hW2]; exact (Blk.new w _ _).alloc _
  have h2 : Blk W2 (w.heap.size + 1) 49 rootV.cs.toArray := by
    have := Blk.new (w.alloc (.cells #[.slice (some ⟨w.heap.size + 1, 0, none⟩) 1 1] 24)) 49 rootV.cs.toArray
    rw [hW2] at this
    simpa using this
  have hb : Below w.heap.size w W2 := by rw [← hW2]; exact (on_alloc w _).trans ((on_alloc _ _).mono (by simp))
  have HEND : Hid (FsR W2 W2.heap.size (some ⟨w.heap.size + 1, 0, none⟩) 1 [rootV] ∧ Below w.heap.size w W2) := hide ⟨⟨⟨rfl, fun _ => ⟨_, rfl, h2.lt, fun j u hj => by
    rw [at_add, Nat.zero_add, h2.cell j]
    simpa [dcs] using hj⟩⟩, fun x hx => by
      obtain rfl := List.mem_singleton.1 hx
      exact root_ok _ _⟩, hb⟩
  have k0 := one_ h1
  unfold rootV DV.cs at hW2
  dsimp only at hW2
  rw [show (([] : List UInt8).toArray) = #[] from rfl] at hW2
  clear h1 h2 hb
  rw [hW2]
  refine bodyPost_ret (v := .agg #[.slice (some ⟨w.heap.size + 1, 0, none⟩) 1 1]) (by simp only [results, Try.results23]; go_simp) rfl ⟨rfl, HEND.out⟩
set_option maxRecDepth 100000 in
theorem rnames_nil (w : World) : Calls Try.prog 44 #[.slice none 0 0, .slice none 0 0] w fun e w' => e = .returned (.bool true) ∧ Below w.heap.size w w' := by
  go_enter Try.func44, Try.ntmps44
  go_wp2_with fail
  go_loopw [5] (fun u5 wx => u5 = .int .i64 0 ∧ Hid (w = wx)) (fun _ _ => 0)
  case atStart => exact ⟨rfl, hide (by trivial)⟩
  case round =>
    obtain ⟨rfl, HW⟩ := hrel
    obtain rfl := HW.out
    go_wp2_with fail
    go_ret
    exact ⟨rfl, Below.refl _ _⟩
set_option maxRecDepth 100000 in
set_option maxHeartbeats 8000000 in
theorem rsame_root (L1 L2 : Option Addr) (w : World) (h1 : FsR w w.heap.size L1 1 [rootV]) (h2 : FsR w w.heap.size L2 1 [rootV]) :
    Calls Try.prog 21 #[.agg #[.slice L1 1 1], .agg #[.slice L2 1 1]] w fun e w' => e = .returned (.bool true) ∧ Below w.heap.size w w' := by
  obtain ⟨W1, hW1⟩ : ∃ W, w.alloc (.cells #[.slice L1 1 1] 24) = W := ⟨_, rfl⟩
  have b1 : Below w.heap.size w W1 := by rw [← hW1]; exact on_alloc _ _
  have k1 : Blk W1 w.heap.size 24 #[.slice L1 1 1] := by rw [← hW1]; exact Blk.new w _ _
  have s1 : W1.heap.size = w.heap.size + 1 := by rw [← hW1]; simp
  obtain ⟨W2, hW2⟩ : ∃ W, W1.alloc (.cells #[.slice L2 1 1] 24) = W := ⟨_, rfl⟩
  have b2 : Below W1.heap.size W1 W2 := by rw [← hW2]; exact on_alloc _ _
  have k2 : Blk W2 (w.heap.size + 1) 24 #[.slice L2 1 1] := by rw [← hW2, ← s1]; exact Blk.new W1 _ _
  have bA : Below w.heap.size w W2 := b1.trans (b2.mono (by omega))
  have HK1 := hide (k1.below b2 (by omega))
  have HK2 := hide k2
  have HB := hide bA
  obtain ⟨g1, o1, x1, rfl, hg1, hx1, hok1, hc1⟩ := h1.at_ (k := 0) (by omega)
  obtain ⟨g2, o2, x2, rfl, hg2, hx2, hok2, hc2⟩ := h2.at_ (k := 0) (by omega)
  obtain rfl : rootV = x1 := by simpa using hx1
  obtain rfl : rootV = x2 := by simpa using hx2
  have HC1 := hide (fun (V : World) (hV : Below w.heap.size w V) => NdCells.below hc1 hg1 hV)
  have HC2 := hide (fun (V : World) (hV : Below w.heap.size w V) => NdCells.below hc2 hg2 hV)
  have hcv : ∀ W, (convert 46 9 (.slice none 0 0)).run Try.prog W = .ok (.string ⟨#[]⟩) W := fun W => by
    have := run_string_of (P := Try.prog) W W.heap.size 46 9 5 none 0 0 [] Try.underlying46 Try.underlying5 Try.underlying9 Reads.none_
    exact this
  have HG := hide (And.intro hg1 hg2)
  have k0 := one_ HK1.out
  have k9 := one_ HK2.out
  have kl := HK1.out.lt
  have kl2 := HK2.out.lt
  clear h1 h2 b1 k1 b2 k2 bA hx1 hok1 hc1 hx2 hok2 hc2
  go_enter Try.func21, Try.ntmps21
  go_wp2_with fail
  clear hW1 hW2 k0 k9 kl kl2 s1
  go_loopw [5] (fun u5 wx => ∃ i : Nat, i ≤ 1 ∧ u5 = .int .i64 (i : Int) ∧ Hid (Below w.heap.size w wx) ∧ Hid (Blk wx w.heap.size 24 #[.slice (some ⟨g1, o1, none⟩) 1 1]) ∧ Hid (Blk wx (w.heap.size + 1) 24 #[.slice (some ⟨g2, o2, none⟩) 1 1])) (fun i _ => 1 - (intOf i).toNat)
  case atStart => exact ⟨0, by omega, rfl, HB, HK1, HK2⟩
  case round =>
    clear HB HK1 HK2
    obtain ⟨i, hi, rfl, HB, HK1, HK2⟩ := hrel
    have k0 := one_ HK1.out
    have k9 := one_ HK2.out
    have kl := HK1.out.lt
    have kl2 := HK2.out.lt
    by_cases hin : i < 1
    · have hlt : (i : Int) < 1 := by omega
      obtain rfl : i = 0 := by omega
      have c1 := HC1.out _ HB.out
      have c2 := HC2.out _ HB.out
      have HG1 : Hid (g1 < wr.heap.size ∧ g2 < wr.heap.size) := hide (by have := HG.out; have := HB.out.size; omega)
      have i1 := fun W => nd_at g1 o1 1 1 0 0 rfl (by omega) W
      have i2 := fun W => nd_at g2 o2 1 1 0 0 rfl (by omega) W
      simp only [Nat.zero_mul, Nat.add_zero] at i1 i2
      go_upto_region 6 with (fail)
      go_cut [6, 7] (fun u6 u7 wx => ∃ a b : Nat, u6 = .pointer (some ⟨a, 0, none⟩) ∧ u7 = .pointer (some ⟨b, 0, none⟩) ∧ Hid (Blk wx a 49 #[Value.int .i64 2, .int .i64 7, .int .i64 1, .slice none 0 0, .slice none 0 0, .string ⟨#[]⟩]) ∧ Hid (Blk wx b 49 #[Value.int .i64 2, .int .i64 7, .int .i64 1, .slice none 0 0, .slice none 0 0, .string ⟨#[]⟩]) ∧ Hid (Below wr.heap.size wr wx))
      case first =>
        have HSB : Hid (∀ V, Below wr.heap.size wr V → (fun V' : World => V'.cell? ⟨w.heap.size, 0, none⟩ = some (.slice (some ⟨g1, o1, none⟩) 1 1) ∧ V'.cell? ⟨w.heap.size + 1, 0, none⟩ = some (.slice (some ⟨g2, o2, none⟩) 1 1) ∧ V'.cell? ⟨g1, o1, none⟩ = some (.int .i64 2) ∧ V'.cell? ⟨g1, o1 + 1, none⟩ = some (.int .i64 7) ∧ V'.cell? ⟨g1, o1 + 2, none⟩ = some (.int .i64 1) ∧ V'.cell? ⟨g1, o1 + 3, none⟩ = some (.slice none 0 0) ∧ V'.cell? ⟨g1, o1 + 4, none⟩ = some (.slice none 0 0) ∧ V'.cell? ⟨g1, o1 + 5, none⟩ = some (.string ⟨#[]⟩) ∧ V'.cell? ⟨g2, o2, none⟩ = some (.int .i64 2) ∧ V'.cell? ⟨g2, o2 + 1, none⟩ = some (.int .i64 7) ∧ V'.cell? ⟨g2, o2 + 2, none⟩ = some (.int .i64 1) ∧ V'.cell? ⟨g2, o2 + 3, none⟩ = some (.slice none 0 0) ∧ V'.cell? ⟨g2, o2 + 4, none⟩ = some (.slice none 0 0) ∧ V'.cell? ⟨g2, o2 + 5, none⟩ = some (.string ⟨#[]⟩)) V) := hide (fun V hV => by
          obtain ⟨d0, d1, d2, d3, d4, d5⟩ := HC1.out V (below_more HB.out (by have := HB.out.size; omega) hV)
          obtain ⟨e0, e1, e2, e3, e4, e5⟩ := HC2.out V (below_more HB.out (by have := HB.out.size; omega) hV)
          unfold rootV at d0 d1 d2 d3 d4 d5 e0 e1 e2 e3 e4 e5
          dsimp only at d0 d1 d2 d3 d4 d5 e0 e1 e2 e3 e4 e5
          simp only [Nat.zero_mul, Nat.add_zero] at d0 d1 d2 d3 d4 d5 e0 e1 e2 e3 e4 e5
          exact ⟨one_ (HK1.out.below hV HK1.out.lt), one_ (HK2.out.below hV HK2.out.lt), d0, d1, d2, d3, d4, d5, e0, e1, e2, e3, e4, e5⟩)
        rw [show ((0 : Nat) : Int) = 0 from rfl]
        refine wp_region_K (fun V' : World => V'.cell? ⟨w.heap.size, 0, none⟩ = some (.slice (some ⟨g1, o1, none⟩) 1 1) ∧ V'.cell? ⟨w.heap.size + 1, 0, none⟩ = some (.slice (some ⟨g2, o2, none⟩) 1 1) ∧ V'.cell? ⟨g1, o1, none⟩ = some (.int .i64 2) ∧ V'.cell? ⟨g1, o1 + 1, none⟩ = some (.int .i64 7) ∧ V'.cell? ⟨g1, o1 + 2, none⟩ = some (.int .i64 1) ∧ V'.cell? ⟨g1, o1 + 3, none⟩ = some (.slice none 0 0) ∧ V'.cell? ⟨g1, o1 + 4, none⟩ = some (.slice none 0 0) ∧ V'.cell? ⟨g1, o1 + 5, none⟩ = some (.string ⟨#[]⟩) ∧ V'.cell? ⟨g2, o2, none⟩ = some (.int .i64 2) ∧ V'.cell? ⟨g2, o2 + 1, none⟩ = some (.int .i64 7) ∧ V'.cell? ⟨g2, o2 + 2, none⟩ = some (.int .i64 1) ∧ V'.cell? ⟨g2, o2 + 3, none⟩ = some (.slice none 0 0) ∧ V'.cell? ⟨g2, o2 + 4, none⟩ = some (.slice none 0 0) ∧ V'.cell? ⟨g2, o2 + 5, none⟩ = some (.string ⟨#[]⟩)) [13] rfl (HSB.out _ (bl_drewN (n := 1) (Below.refl _ _))) (fun hHeld => ?_)
        clear c1 c2
        refine wpAnyK_take (i := 0) (v := ?_) rfl rfl (by kernel_rfl) (fun _ _ _ h => h) (Or.inl ⟨by rfl, ?_⟩) (by assumption) ?_
        rotate_left
        · (intro V hV; (try dsimp only at hV); go_simp; with_reducible rfl)
        try simp only [Act.put, List.setIfInBounds_toArray, List.set_cons_zero, List.set_cons_succ]
        refine wpAnyK_take (i := 1) (v := ?_) rfl rfl (by kernel_rfl) (fun _ _ _ h => h) (Or.inl ⟨by rfl, ?_⟩) (by assumption) ?_
        rotate_left
        · (intro V hV; (try dsimp only at hV); go_simp; with_reducible rfl)
        try simp only [Act.put, List.setIfInBounds_toArray, List.set_cons_zero, List.set_cons_succ]
        refine wpAnyK_take (i := 2) (v := ?_) rfl rfl (by kernel_rfl) (fun _ _ _ h => h) (Or.inl ⟨by rfl, ?_⟩) (by assumption) ?_
        rotate_left
        · (intro V hV; (try dsimp only at hV); go_simp; with_reducible rfl)
        try simp only [Act.put, List.setIfInBounds_toArray, List.set_cons_zero, List.set_cons_succ]
        refine wpAnyK_take (i := 3) (v := ?_) rfl rfl (by kernel_rfl) (fun _ _ _ h => h) (Or.inl ⟨by rfl, ?_⟩) (by assumption) ?_
        rotate_left
        · (intro V hV; (try dsimp only at hV); go_simp; with_reducible rfl)
        try simp only [Act.put, List.setIfInBounds_toArray, List.set_cons_zero, List.set_cons_succ]
        refine wpAnyK_take (i := 4) (v := ?_) rfl rfl (by kernel_rfl) (fun _ _ _ h => h) (Or.inl ⟨by rfl, ?_⟩) (by assumption) ?_
        rotate_left
        · (intro V hV; (try dsimp only at hV); go_simp; with_reducible rfl)
        try simp only [Act.put, List.setIfInBounds_toArray, List.set_cons_zero, List.set_cons_succ]
        refine wpAnyK_take (i := 5) (v := ?_) rfl rfl (by kernel_rfl) (fun _ _ _ h => h) (Or.inl ⟨by rfl, ?_⟩) (by assumption) ?_
        rotate_left
        · (intro V hV; (try dsimp only at hV); go_simp; with_reducible rfl)
        try simp only [Act.put, List.setIfInBounds_toArray, List.set_cons_zero, List.set_cons_succ]
        refine wpAnyK_take (i := 6) (v := ?_) rfl rfl (by kernel_rfl) (fun _ _ _ h => h) (Or.inl ⟨by rfl, ?_⟩) (by assumption) ?_
        rotate_left
        · (intro V hV; (try dsimp only at hV); go_simp; with_reducible rfl)
        try simp only [Act.put, List.setIfInBounds_toArray, List.set_cons_zero, List.set_cons_succ]
        refine wpAnyK_take (i := 7) (v := ?_) rfl rfl (by kernel_rfl) (fun _ _ _ h => h) (Or.inl ⟨by rfl, ?_⟩) (by assumption) ?_
        rotate_left
        · (intro V hV; (try dsimp only at hV); go_simp; with_reducible rfl)
        try simp only [Act.put, List.setIfInBounds_toArray, List.set_cons_zero, List.set_cons_succ]
        refine wpAnyK_take (i := 8) (v := ?_) rfl rfl (by kernel_rfl) (fun _ _ _ h => h) (Or.inl ⟨by rfl, ?_⟩) (by assumption) ?_
        rotate_left
        · (intro V hV; (try dsimp only at hV); go_simp; with_reducible rfl)
        try simp only [Act.put, List.setIfInBounds_toArray, List.set_cons_zero, List.set_cons_succ]
        refine wpAnyK_take (i := 9) (v := ?_) rfl rfl (by kernel_rfl) (fun _ _ _ h => h) (Or.inl ⟨by rfl, ?_⟩) (by assumption) ?_
        rotate_left
        · (intro V hV; (try dsimp only at hV); go_simp; with_reducible rfl)
        try simp only [Act.put, List.setIfInBounds_toArray, List.set_cons_zero, List.set_cons_succ]
        obtain ⟨wd, hwd⟩ : ∃ W, World.drew wr = W := ⟨_, rfl⟩
        have hdr : Below wr.heap.size wr wd := by rw [← hwd]; exact bl_drewN (n := 1) (Below.refl _ _)
        rw [hwd] at hHeld ⊢
        clear hwd
        refine wpAnyK_two (i := 10) (j := 11) (by kernel_rfl) rfl rfl rfl rfl (fun K hK => ?_) (fun K hK => ?_)
        · go_simp
          have hb1 : Below wr.heap.size wr (wd.alloc (.cells #[Value.int .i64 0, .int .i64 0, .int .i64 0, .slice none 0 0, .slice none 0 0, .string ⟨#[]⟩] 49)) := hdr.trans ((on_alloc _ _).mono hdr.size)
          refine hK.out _ _ (fun _ _ => HSB.out _ hb1) ?_
          clear hK K hHeld
          simp only [List.setIfInBounds_toArray]
          refine wpAnyK_step (i := 11) (by kernel_rfl) rfl rfl (fun K hK => ?_)
          go_simp
          have hb2 : Below wr.heap.size wr ((wd.alloc (.cells #[Value.int .i64 0, .int .i64 0, .int .i64 0, .slice none 0 0, .slice none 0 0, .string ⟨#[]⟩] 49)).alloc (.cells #[Value.int .i64 0, .int .i64 0, .int .i64 0, .slice none 0 0, .slice none 0 0, .string ⟨#[]⟩] 49)) := hb1.trans ((on_alloc _ _).mono hb1.size)
          refine hK.out _ _ (fun _ _ => HSB.out _ hb2) ?_
          clear hK K
          simp only [List.setIfInBounds_toArray]
          refine wpAnyK_step (i := 12) (by kernel_rfl) rfl rfl (fun K hK => ?_)
          go_simp
          have hb3 : Below wr.heap.size wr ((wd.alloc (.cells #[Value.int .i64 2, .int .i64 7, .int .i64 1, .slice none 0 0, .slice none 0 0, .string ⟨#[]⟩] 49)).alloc (.cells #[Value.int .i64 0, .int .i64 0, .int .i64 0, .slice none 0 0, .slice none 0 0, .string ⟨#[]⟩] 49)) := (hdr.trans ((on_alloc _ _).mono hdr.size)).trans ((on_alloc _ _).mono (by have := hdr.size; simp; omega))
          refine hK.out _ _ (fun _ _ => HSB.out _ hb3) ?_
          clear hK K
          simp only [List.setIfInBounds_toArray]
          refine wpAnyK_step (i := 13) (by kernel_rfl) rfl rfl (fun K hK => ?_)
          go_simp
          refine hK.out _ _ (fun _ h => absurd (by simp) h) ?_
          clear hK K
          refine wpAnyK_done (by kernel_rfl) ?_ _
          (try simp only [Exit.then])
          have hz1 : Blk ((wd.alloc (.cells #[Value.int .i64 2, .int .i64 7, .int .i64 1, .slice none 0 0, .slice none 0 0, .string ⟨#[]⟩] 49)).alloc (.cells #[Value.int .i64 2, .int .i64 7, .int .i64 1, .slice none 0 0, .slice none 0 0, .string ⟨#[]⟩] 49)) wd.heap.size 49 #[Value.int .i64 2, .int .i64 7, .int .i64 1, .slice none 0 0, .slice none 0 0, .string ⟨#[]⟩] := (Blk.new wd _ _).alloc _
          have hz2 : Blk ((wd.alloc (.cells #[Value.int .i64 2, .int .i64 7, .int .i64 1, .slice none 0 0, .slice none 0 0, .string ⟨#[]⟩] 49)).alloc (.cells #[Value.int .i64 2, .int .i64 7, .int .i64 1, .slice none 0 0, .slice none 0 0, .string ⟨#[]⟩] 49)) (wd.heap.size + 1) 49 #[Value.int .i64 2, .int .i64 7, .int .i64 1, .slice none 0 0, .slice none 0 0, .string ⟨#[]⟩] := by
            have := Blk.new (wd.alloc (.cells #[Value.int .i64 2, .int .i64 7, .int .i64 1, .slice none 0 0, .slice none 0 0, .string ⟨#[]⟩] 49)) 49 #[Value.int .i64 2, .int .i64 7, .int .i64 1, .slice none 0 0, .slice none 0 0, .string ⟨#[]⟩]
            simpa using this
          have hb4 : Below wr.heap.size wr ((wd.alloc (.cells #[Value.int .i64 2, .int .i64 7, .int .i64 1, .slice none 0 0, .slice none 0 0, .string ⟨#[]⟩] 49)).alloc (.cells #[Value.int .i64 2, .int .i64 7, .int .i64 1, .slice none 0 0, .slice none 0 0, .string ⟨#[]⟩] 49)) := (hdr.trans ((on_alloc _ _).mono hdr.size)).trans ((on_alloc _ _).mono (by have := hdr.size; simp; omega))
          have HZ := hide (And.intro hz1 (And.intro hz2 hb4))
          clear hz1 hz2 hb4 hb1 hb2 hb3
          go_wp2_with fail
          go_meet
          exact ⟨_, _, rfl, rfl, hide HZ.out.1, hide HZ.out.2.1, hide HZ.out.2.2⟩
        · go_simp
          have hb1 : Below wr.heap.size wr (wd.alloc (.cells #[Value.int .i64 0, .int .i64 0, .int .i64 0, .slice none 0 0, .slice none 0 0, .string ⟨#[]⟩] 49)) := hdr.trans ((on_alloc _ _).mono hdr.size)
          refine hK.out _ _ (fun _ _ => HSB.out _ hb1) ?_
          clear hK K hHeld
          simp only [List.setIfInBounds_toArray]
          refine wpAnyK_step (i := 10) (by kernel_rfl) rfl rfl (fun K hK => ?_)
          go_simp
          have hb2 : Below wr.heap.size wr ((wd.alloc (.cells #[Value.int .i64 0, .int .i64 0, .int .i64 0, .slice none 0 0, .slice none 0 0, .string ⟨#[]⟩] 49)).alloc (.cells #[Value.int .i64 0, .int .i64 0, .int .i64 0, .slice none 0 0, .slice none 0 0, .string ⟨#[]⟩] 49)) := hb1.trans ((on_alloc _ _).mono hb1.size)
          refine hK.out _ _ (fun _ _ => HSB.out _ hb2) ?_
          clear hK K
          simp only [List.setIfInBounds_toArray]
          refine wpAnyK_step (i := 12) (by kernel_rfl) rfl rfl (fun K hK => ?_)
          go_simp
          have hb3 : Below wr.heap.size wr ((wd.alloc (.cells #[Value.int .i64 0, .int .i64 0, .int .i64 0, .slice none 0 0, .slice none 0 0, .string ⟨#[]⟩] 49)).alloc (.cells #[Value.int .i64 2, .int .i64 7, .int .i64 1, .slice none 0 0, .slice none 0 0, .string ⟨#[]⟩] 49)) := (hdr.trans ((on_alloc _ _).mono hdr.size)).trans ((on_alloc _ _).mono (by have := hdr.size; simp; omega))
          refine hK.out _ _ (fun _ _ => HSB.out _ hb3) ?_
          clear hK K
          simp only [List.setIfInBounds_toArray]
          refine wpAnyK_step (i := 13) (by kernel_rfl) rfl rfl (fun K hK => ?_)
          go_simp
          refine hK.out _ _ (fun _ h => absurd (by simp) h) ?_
          clear hK K
          refine wpAnyK_done (by kernel_rfl) ?_ _
          (try simp only [Exit.then])
          have hz1 : Blk ((wd.alloc (.cells #[Value.int .i64 2, .int .i64 7, .int .i64 1, .slice none 0 0, .slice none 0 0, .string ⟨#[]⟩] 49)).alloc (.cells #[Value.int .i64 2, .int .i64 7, .int .i64 1, .slice none 0 0, .slice none 0 0, .string ⟨#[]⟩] 49)) wd.heap.size 49 #[Value.int .i64 2, .int .i64 7, .int .i64 1, .slice none 0 0, .slice none 0 0, .string ⟨#[]⟩] := (Blk.new wd _ _).alloc _
          have hz2 : Blk ((wd.alloc (.cells #[Value.int .i64 2, .int .i64 7, .int .i64 1, .slice none 0 0, .slice none 0 0, .string ⟨#[]⟩] 49)).alloc (.cells #[Value.int .i64 2, .int .i64 7, .int .i64 1, .slice none 0 0, .slice none 0 0, .string ⟨#[]⟩] 49)) (wd.heap.size + 1) 49 #[Value.int .i64 2, .int .i64 7, .int .i64 1, .slice none 0 0, .slice none 0 0, .string ⟨#[]⟩] := by
            have := Blk.new (wd.alloc (.cells #[Value.int .i64 2, .int .i64 7, .int .i64 1, .slice none 0 0, .slice none 0 0, .string ⟨#[]⟩] 49)) 49 #[Value.int .i64 2, .int .i64 7, .int .i64 1, .slice none 0 0, .slice none 0 0, .string ⟨#[]⟩]
            simpa using this
          have hb4 : Below wr.heap.size wr ((wd.alloc (.cells #[Value.int .i64 2, .int .i64 7, .int .i64 1, .slice none 0 0, .slice none 0 0, .string ⟨#[]⟩] 49)).alloc (.cells #[Value.int .i64 2, .int .i64 7, .int .i64 1, .slice none 0 0, .slice none 0 0, .string ⟨#[]⟩] 49)) := (hdr.trans ((on_alloc _ _).mono hdr.size)).trans ((on_alloc _ _).mono (by have := hdr.size; simp; omega))
          have HZ := hide (And.intro hz1 (And.intro hz2 hb4))
          clear hz1 hz2 hb4 hb1 hb2 hb3
          go_wp2_with fail
          go_meet
          exact ⟨_, _, rfl, rfl, hide HZ.out.2.1, hide HZ.out.1, hide HZ.out.2.2⟩
      case rest =>
        obtain ⟨a, b, rfl, rfl, HA, HBB, HW⟩ := hcut
        have HB2 := hide (below_more HB.out (by have := HB.out.size; omega) HW.out)
        have HK1' := hide (HK1.out.below HW.out HK1.out.lt)
        have HK2' := hide (HK2.out.below HW.out HK2.out.lt)
        obtain ⟨a0, a1, a2, a3, a4, a5⟩ := six HA.out
        obtain ⟨b0, b1, b2, b3, b4, b5⟩ := six HBB.out
        have al := HA.out.lt
        have bl := HBB.out.lt
        go_wp2_with fail
        with_reducible refine (rnames_nil _).mono ?_
        rintro e w6 ⟨rfl, hb⟩
        have HB6 := hide (below_more HB2.out (by have := HB2.out.size; omega) hb)
        have HK1'' := hide (HK1'.out.below hb HK1'.out.lt)
        have HK2'' := hide (HK2'.out.below hb HK2'.out.lt)
        clear hb a0 a1 a2 a3 a4 a5 b0 b1 b2 b3 b4 b5
        go_wp2_with fail
        go_roundw
        case rel => exact ⟨1, by omega, by go_num, HB6, HK1'', HK2''⟩
        case measure => simp [intOf]
    · have hlt : ¬ (i : Int) < 1 := by omega
      go_wp2_with fail
      go_ret
      exact ⟨rfl, HB.out⟩
end Go.Proofs.Ytnhfpaobocbieaa
