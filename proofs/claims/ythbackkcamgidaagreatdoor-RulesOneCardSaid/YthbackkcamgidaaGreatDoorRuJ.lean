/- add. -/
import Derived.Test.YthbackkcamgidaaGreatDoorRuH
namespace Go.Proofs.YthbackkcamgidaaGreatDoor
open Go Go.RowKit
set_option linter.unusedVariables false
set_option maxRecDepth 100000 in
set_option maxHeartbeats 8000000 in
theorem add_any (p B : Nat) (s : RS) (P : PL) (num : Int) (fi : Bool) (e : EU) (w : World) (h : RdI p B s P num fi w) (hn : e.pat.length ≤ 400000) (hv : e.val.length ≤ 400000) (hE : P.env.length ≤ 64) :
    Calls Tryz.prog 101 #[.pointer (some ⟨p, 0, none⟩), e.v] w (LnEnd p B num fi (addU P e) w) := by
  have X := hide (fun W => right_any e hn hv W)
  have hpl := h.blk.lt
  have hlo := h.lo
  have hen := h.en_
  have HA : Hid (addU P e = if rightE e = true then (if P.env.length < 64 then some { P with env := P.env ++ [e] } else none) else none) := hide rfl
  obtain ⟨W0, hW0⟩ : ∃ W, w.alloc (.cells #[.int .i64 e.k, .string ⟨e.pat.toArray⟩, .string ⟨e.val.toArray⟩] 42) = W := ⟨_, rfl⟩
  have hb0 : Below w.heap.size w W0 := by rw [← hW0]; exact (Below.refl _ _).alloc (Nat.le_refl _) _
  have hB0 : Blk W0 w.heap.size 42 #[.int .i64 e.k, .string ⟨e.pat.toArray⟩, .string ⟨e.val.toArray⟩] := by rw [← hW0]; exact Blk.new _ _ _
  have HI0 := hide (h.below hb0)
  have HB0 := hide hb0
  have HK0 := hide hB0
  have HW0 := hide hW0
  clear hb0 hB0 hW0 h
  generalize hg : w.heap.size = g at *
  have hgl := HK0.out.lt
  unfold EU.v at *
  generalize addU P e = R at *
  cases hr : rightE e with
  | false =>
    rw [hr] at HA X
    have HR : Hid (R = none) := hide HA.out
    clear HA hr
    go_enter Tryz.func101, Tryz.ntmps101
    go_wp2_with fail
    try rw [HW0.out]
    try rw [hg]
    refine (X.out _).mono ?_
    rintro en w1 ⟨rfl, hb⟩
    have HI1 := hide (HI0.out.below hb)
    have HF1 := hide (Fr.of (p := p) (by rw [hg]; exact below_more HB0.out (by omega) hb))
    have c3 := HI1.out.blk.cell 3
    have XN := hide (need_no p num w1 c3)
    clear hb
    go_wp2_with fail
    refine XN.out.mono ?_
    rintro en w2 ⟨rfl, rfl⟩
    exact ⟨rfl, LnEnd.no HR.out HF1.out rfl⟩
  | true =>
    rw [hr] at HA X
    by_cases h64 : s.en < 64
    · have HR : Hid (R = some { P with env := P.env ++ [e] }) := hide (by rw [HA.out, if_pos rfl, if_pos (by omega)])
      have h64' : (s.en : Int) < 64 := by omega
      clear HA hr
      go_enter Tryz.func101, Tryz.ntmps101
      go_wp2_with fail
      try rw [HW0.out]
      try rw [hg]
      refine (X.out _).mono ?_
      rintro en w1 ⟨rfl, hb⟩
      have HI1 := hide (HI0.out.below hb)
      have HK1 := hide (HK0.out.below hb hgl)
      have HF1 := hide (Fr.of (p := p) (by rw [hg]; exact below_more HB0.out (by omega) hb))
      have hpl1 := HI1.out.blk.lt
      have hgl1 := HK1.out.lt
      obtain ⟨c0, c1, c2, c3, c4⟩ := HI1.out.blk.five_
      have XN := hide (need_ok p w1)
      clear hb HI0 HK0
      go_wp2_with fail
      refine XN.out.mono ?_
      rintro en w2 ⟨rfl, rfl⟩
      obtain ⟨k0, k1, k2, _⟩ := Blk.three HK1.out
      obtain ⟨i0, hi, hz0, hz1, hz2⟩ := info_parts infoEn
      clear c0 c1 c3 c4
      go_wp2_with fail
      refine wp_region_K (fun V => V.cell? ⟨p, 2, none⟩ = some (.slice s.EA s.en s.ec) ∧ V.cell? ⟨g, 0, none⟩ = some (.int .i64 e.k) ∧ V.cell? ⟨g, 1, none⟩ = some (.string ⟨e.pat.toArray⟩) ∧ V.cell? ⟨g, 2, none⟩ = some (.string ⟨e.val.toArray⟩)) [8, 12] rfl ⟨c2, k0, k1, k2⟩ (fun hHeld => ?_)
      refine wpAnyK_takeF (i := 0) (v := ?_) rfl rfl (by kernel_rfl) (fun _ _ _ h => h) (Or.inl ⟨by rfl, ?_⟩) ?_
      rotate_left
      · (intro V hV; (try dsimp only at hV); go_simp; with_reducible rfl)
      try simp only [Act.put, List.setIfInBounds_toArray, List.set_cons_zero, List.set_cons_succ]
      refine wpAnyK_takeF (i := 1) (v := ?_) rfl rfl (by kernel_rfl) (fun _ _ _ h => h) (Or.inl ⟨by rfl, ?_⟩) ?_
      rotate_left
      · (intro V hV; (try dsimp only at hV); go_simp; with_reducible rfl)
      try simp only [Act.put, List.setIfInBounds_toArray, List.set_cons_zero, List.set_cons_succ]
      refine wpAnyK_takeF (i := 2) (v := ?_) rfl rfl (by kernel_rfl) (fun _ _ _ h => h) (Or.inl ⟨by rfl, ?_⟩) ?_
      rotate_left
      · (intro V hV; (try dsimp only at hV); go_simp; with_reducible rfl)
      try simp only [Act.put, List.setIfInBounds_toArray, List.set_cons_zero, List.set_cons_succ]
      refine wpAnyK_takeF (i := 3) (v := ?_) rfl rfl (by kernel_rfl) (fun _ _ _ h => h) (Or.inl ⟨by rfl, ?_⟩) ?_
      rotate_left
      · (intro V hV; (try dsimp only at hV); go_simp; with_reducible rfl)
      try simp only [Act.put, List.setIfInBounds_toArray, List.set_cons_zero, List.set_cons_succ]
      refine wpAnyK_takeF (i := 4) (v := ?_) rfl rfl (by kernel_rfl) (fun _ _ _ h => h) (Or.inl ⟨by rfl, ?_⟩) ?_
      rotate_left
      · (intro V hV; (try dsimp only at hV); go_simp; with_reducible rfl)
      try simp only [Act.put, List.setIfInBounds_toArray, List.set_cons_zero, List.set_cons_succ]
      refine wpAnyK_take (i := 5) (v := ?_) rfl rfl (by kernel_rfl) (fun _ _ _ h => h) (Or.inl ⟨by rfl, ?_⟩) (by assumption) ?_
      rotate_left
      · (intro V hV; (try dsimp only at hV); go_simp; with_reducible rfl)
      try simp only [Act.put, List.setIfInBounds_toArray, List.set_cons_zero, List.set_cons_succ]
      refine wpAnyK_take (i := 6) (v := ?_) rfl rfl (by kernel_rfl) (fun _ _ _ h => h) (Or.inl ⟨by rfl, ?_⟩) (by assumption) ?_
      rotate_left
      · (intro V hV; (try dsimp only at hV); go_simp; with_reducible rfl)
      try simp only [Act.put, List.setIfInBounds_toArray, List.set_cons_zero, List.set_cons_succ]
      refine wpAnyK_step (i := 7) (by kernel_rfl) rfl rfl (fun K hK => ?_)
      go_simp
      have hbb : Below w1.heap.size w1 (w1.alloc (.cells #[.int .i64 e.k, .string ⟨e.pat.toArray⟩, .string ⟨e.val.toArray⟩] 42)).drew := below_drewN ((Below.refl _ _).alloc (Nat.le_refl _) _) 1
      have HI2 := hide (HI1.out.below hbb)
      have HK2 := hide (HK1.out.below hbb hgl1)
      have HR2 : Hid (Reads (w1.alloc (.cells #[.int .i64 e.k, .string ⟨e.pat.toArray⟩, .string ⟨e.val.toArray⟩] 42)).drew (w1.heap.size + 1) 3 (some ⟨w1.heap.size, 0, none⟩) 1 e.cs) := hide (one_env w1 e)
      have HF2 := hide (HF1.out.trans (Fr.of (p := p) hbb))
      have hs2 : (w1.alloc (.cells #[.int .i64 e.k, .string ⟨e.pat.toArray⟩, .string ⟨e.val.toArray⟩] 42)).drew.heap.size = w1.heap.size + 1 := World.size_alloc _ _
      have hBh := HI1.out.hi
      clear HI1 HK1 HF1 hbb hHeld c2 k0 k1 k2
      generalize (w1.alloc (.cells #[.int .i64 e.k, .string ⟨e.pat.toArray⟩, .string ⟨e.val.toArray⟩] 42)).drew = Ua at *
      have d2 := (HI2.out.blk.five_).2.2.1
      obtain ⟨k0, k1, k2, _⟩ := Blk.three HK2.out
      refine hK.out _ _ (fun _ _ => ⟨d2, k0, k1, k2⟩) ?_
      clear hK K d2 k0 k1 k2
      simp only [List.setIfInBounds_toArray]
      refine wpAnyK_step (i := 8) (by kernel_rfl) rfl rfl (fun K hK => ?_)
      refine step_append_any _ rfl (.tmp 22) (.tmp 24) 24 rfl B 42 i0 _ 3 40 Tryz.underlying24 hi hz0 hz1 hz2 rfl (by omega) (.slice s.EA s.en s.ec) s.en (ecs P.env) rfl HI2.out.env _ (some ⟨w1.heap.size, 0, none⟩) 1 1 e.cs rfl HR2.out (by intro u hu; exact ecs_one [e] u (by simpa [ecs] using hu)) (by unfold maxLen; omega) (by omega) (by rw [hs2]; omega) ?_
      intro v9 Ub hown hgr hat
      obtain ⟨A9, c9, rfl⟩ := own_slice hown
      obtain ⟨hRd, hFr⟩ := HI2.out.push_env e hown hgr
      have HRd := hide hRd
      have HFr := hide (HF2.out.trans hFr)
      have hb2 : Blk Ub p 67 _ := (hgr.block p (by rw [hs2]; omega) (fun ee => by have := (World.ownsRow.lt HI2.out.env p ee.symm).1; omega)).trans HI2.out.blk
      have e2 := (hb2.five_).2.2.1
      have f2 := hb2.frozen 2
      refine hK.out _ _ (fun _ hh => absurd (by simp) hh) ?_
      clear hK K hRd hFr hown hgr hat hb2 HI2 HK2 HR2 HF2
      simp only [List.setIfInBounds_toArray, Act.put]
      refine wpAnyK_takeF (i := 9) (v := ?_) rfl rfl (by kernel_rfl) (fun _ _ _ h => h) (Or.inl ⟨by rfl, ?_⟩) ?_
      rotate_left
      · (intro V hV; (try dsimp only at hV); go_simp; with_reducible rfl)
      try simp only [Act.put, List.setIfInBounds_toArray, List.set_cons_zero, List.set_cons_succ]
      refine wpAnyK_takeF (i := 10) (v := ?_) rfl rfl (by kernel_rfl) (fun _ _ _ h => h) (Or.inl ⟨by rfl, ?_⟩) ?_
      rotate_left
      · (intro V hV; (try dsimp only at hV); go_simp; with_reducible rfl)
      try simp only [Act.put, List.setIfInBounds_toArray, List.set_cons_zero, List.set_cons_succ]
      refine wpAnyK_takeF (i := 11) (v := ?_) rfl rfl (by kernel_rfl) (fun _ _ _ h => h) (Or.inl ⟨by rfl, ?_⟩) ?_
      rotate_left
      · (intro V hV; (try dsimp only at hV); go_simp; with_reducible rfl)
      try simp only [Act.put, List.setIfInBounds_toArray, List.set_cons_zero, List.set_cons_succ]
      refine wpAnyK_step (i := 12) (by kernel_rfl) rfl rfl (fun K hK => ?_)
      go_simp
      refine hK.out _ _ (fun _ hh => absurd (by simp) hh) ?_
      clear hK K
      simp only [List.setIfInBounds_toArray]
      refine wpAnyK_done (by kernel_rfl) ?_ _
      go_end0
      exact LnEnd.ok HR.out HFr.out rfl HRd.out
    · have HR : Hid (R = none) := hide (by rw [HA.out, if_pos rfl, if_neg (by omega)])
      have h64' : ¬ (s.en : Int) < 64 := by omega
      have hdec : decide ((s.en : Int) < 64) = false := decide_eq_false h64'
      clear HA hr
      go_enter Tryz.func101, Tryz.ntmps101
      go_wp2_with fail
      try rw [HW0.out]
      try rw [hg]
      refine (X.out _).mono ?_
      rintro en w1 ⟨rfl, hb⟩
      have HI1 := hide (HI0.out.below hb)
      have HF1 := hide (Fr.of (p := p) (by rw [hg]; exact below_more HB0.out (by omega) hb))
      obtain ⟨c0, c1, c2, c3, c4⟩ := HI1.out.blk.five_
      have XN := hide (need_no p num w1 c3)
      clear hb
      go_wp2_with fail
      refine XN.out.mono ?_
      rintro en w2 ⟨rfl, rfl⟩
      exact ⟨rfl, LnEnd.no HR.out HF1.out rfl⟩
end Go.Proofs.YthbackkcamgidaaGreatDoor
