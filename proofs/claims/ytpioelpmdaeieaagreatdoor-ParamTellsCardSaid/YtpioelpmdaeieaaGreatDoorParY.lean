/- The document's Unset; without, put and Of on settings. -/
import Derived.Test.YtpioelpmdaeieaaGreatDoorParX
import Derived.Test.YtpioelpmdaeieaaGreatDoorSetH
namespace Go.Proofs.YtpioelpmdaeieaaGreatDoor
open Go.RowKit
set_option linter.unusedVariables false
theorem uns_r (l : List Vr) (s : LB) : unsP l s = if (rfoundP l s && checkP l) = true then l.take (posP l s) ++ l.drop (posP l s + 1) else l := by
  unfold unsP
  rw [hasP_r]
  by_cases h : (rfoundP l s && checkP l) = true
  · rw [if_pos h, if_pos h]
    rw [Bool.and_eq_true] at h
    rw [(rfound_eq ((check_iff l).1 h.2).2.2 s).1]
  · rw [if_neg h, if_neg h]
set_option maxRecDepth 100000 in
set_option maxHeartbeats 8000000 in
theorem runset_any (l : List Vr) (hs : ∀ x ∈ l, x.name.length ≤ 100000) (s : LB) (A : Option Addr) (n c : Nat) (w : World) (hR : RdV w A n l) (hn : n ≤ 1000) (hnc : n ≤ c) :
    Calls Tryz.prog 17 #[.slice A n c, .string ⟨s.toArray⟩] w fun e w' => ∃ A' c', e = .returned (.slice A' (unsP l s).length c') ∧ RdV w' A' (unsP l s).length (unsP l s) ∧ Below w.heap.size w w' := by
  obtain ⟨i0, hi0, hz0, hz1, hz2⟩ := info_parts infoVar
  have XF := hide (rfind_any l s A n c w hR hn)
  have XC := hide (fun W (h : RdV W A n l) => rcheck_any l hs A n c W h hn)
  have hl := hR.len
  have HR := hide hR
  have HL := hide hl
  have HLT := hide (fun h => rfound_lt (l := l) (s := s) h)
  obtain ⟨U, hU⟩ : ∃ U, unsP l s = U := ⟨_, rfl⟩
  have HU : Hid (U = if (rfoundP l s && checkP l) = true then l.take (posP l s) ++ l.drop (posP l s + 1) else l) := hide (by rw [← hU]; exact uns_r l s)
  rw [hU]
  clear hR hl hU hs
  generalize rfoundP l s = fo at *
  generalize posP l s = k at *
  generalize checkP l = ck at *
  cases fo with
  | false =>
    obtain rfl : U = l := by rw [HU.out]; rfl
    rw [HL.out]
    go_enter Tryz.func17, Tryz.ntmps17
    go_wp2_with fail
    refine XF.out.mono ?_
    rintro e w1 ⟨rfl, hb⟩
    have HB := hide hb
    have HR1 := hide (HR.out.below hb)
    clear hb
    go_wp2_with fail
    go_ret
    exact ⟨A, c, rfl, HR1.out, HB.out⟩
  | true =>
    have hk := HLT.out rfl
    have hkn : k < n := by have := HL.out; omega
    clear hk
    cases ck with
    | false =>
      obtain rfl : U = l := by rw [HU.out]; rfl
      rw [HL.out]
      go_enter Tryz.func17, Tryz.ntmps17
      go_wp2_with fail
      refine XF.out.mono ?_
      rintro e w1 ⟨rfl, hb⟩
      have HB := hide hb
      have HR1 := hide (HR.out.below hb)
      clear hb
      go_wp2_with fail
      refine (XC.out _ HR1.out).mono ?_
      rintro e w2 ⟨rfl, hb⟩
      have HB2 := hide (below_more HB.out (Nat.le_refl _) hb)
      have HR2 := hide (HR1.out.below hb)
      clear hb
      go_wp2_with fail
      go_ret
      exact ⟨A, c, rfl, HR2.out, HB2.out⟩
    | true =>
      have HUE : Hid (U = l.take k ++ l.drop (k + 1)) := hide (by rw [HU.out]; rfl)
      obtain ⟨T, hT⟩ : ∃ T, (if c = k + 1 then A else A.map (·.add ((k + 1) * 3))) = T := ⟨_, rfl⟩
      have hsl1 := fun W => slv_to A n c k (k : Int) rfl (by omega) W
      have hsl2 : ∀ W, (Instr.slice 22 (.slice A n c) (some (.int .i64 ((k : Int) + 1))) none none).run Tryz.prog W = .ok (.slice T (n - (k + 1)) (c - (k + 1))) W := fun W => by rw [← hT]; exact slv_from A n c (k + 1) ((k : Int) + 1) (by omega) (by omega) W
      have HT := hide hT
      have kw : IntKind.i64.wrap ((k : Int) + 1) = (k : Int) + 1 := by simp [IntKind.wrap, IntKind.bits, IntKind.signed]; omega
      clear hT
      go_enter Tryz.func17, Tryz.ntmps17
      go_wp2_with fail
      refine XF.out.mono ?_
      rintro e w1 ⟨rfl, hb⟩
      have HB := hide hb
      have HR1 := hide (HR.out.below hb)
      clear hb
      go_wp2_with fail
      refine (XC.out _ HR1.out).mono ?_
      rintro e w2 ⟨rfl, hb⟩
      have HB2 := hide (below_more HB.out (Nat.le_refl _) hb)
      have HR2 := hide (HR1.out.below hb)
      clear hb
      go_wp2_with fail
      have hown0 : (w2.alloc (.cells #[] 42)).ownsRow w2.heap.size 42 3 (.slice (some ⟨w2.heap.size, 0, none⟩) 0 0) 0 [] := by
        refine ⟨rfl, .inr ⟨w2.heap.size, 0, #[], rfl, Nat.le_refl _, ?_⟩⟩
        exact ⟨Blk.new w2 42 #[], Nat.le_refl _, by simp [maxLen], by simp, by simp⟩
      have hrt := (HR2.out.alloc (.cells #[] 42)).take (Nat.le_of_lt hkn)
      have HO0 := hide hown0
      have HRT := hide hrt
      clear hown0 hrt
      refine wp_region_M (fun V => True) 10 rfl trivial (fun hHeld => ?_)
      refine wpAnyM_take (i := 1) (v := ?_) rfl rfl (by kernel_rfl) (fun _ _ _ h => h) (Or.inl ⟨by rfl, ?_⟩) (by assumption) ?_
      rotate_left
      · (intro V hV; (try dsimp only at hV); go_simp; with_reducible rfl)
      try simp only [Act.put, List.setIfInBounds_toArray, List.set_cons_zero, List.set_cons_succ]
      refine wpAnyM_take (i := 2) (v := ?_) rfl rfl (by kernel_rfl) (fun _ _ _ h => h) (Or.inl ⟨by rfl, ?_⟩) (by assumption) ?_
      rotate_left
      · (intro V hV; (try dsimp only at hV); go_simp; with_reducible rfl)
      try simp only [Act.put, List.setIfInBounds_toArray, List.set_cons_zero, List.set_cons_succ]
      refine wpAnyM_take (i := 3) (v := ?_) rfl rfl (by kernel_rfl) (fun _ _ _ h => h) (Or.inl ⟨by rfl, ?_⟩) (by assumption) ?_
      rotate_left
      · (intro V hV; (try dsimp only at hV); go_simp; with_reducible rfl)
      try simp only [Act.put, List.setIfInBounds_toArray, List.set_cons_zero, List.set_cons_succ]
      refine wpAnyM_take (i := 5) (v := ?_) rfl rfl (by kernel_rfl) (fun _ _ _ h => h) (Or.inl ⟨by rfl, ?_⟩) (by assumption) ?_
      rotate_left
      · (intro V hV; (try dsimp only at hV); go_simp; with_reducible rfl)
      try simp only [Act.put, List.setIfInBounds_toArray, List.set_cons_zero, List.set_cons_succ]
      refine wpAnyM_take (i := 6) (v := ?_) rfl rfl (by kernel_rfl) (fun _ _ _ h => h) (Or.inl ⟨by rfl, ?_⟩) (by assumption) ?_
      rotate_left
      · (intro V hV; (try dsimp only at hV); go_simp; with_reducible rfl)
      try simp only [Act.put, List.setIfInBounds_toArray, List.set_cons_zero, List.set_cons_succ]
      refine wpAnyM_take (i := 7) (v := ?_) rfl rfl (by kernel_rfl) (fun _ _ _ h => h) (Or.inl ⟨by rfl, ?_⟩) (by assumption) ?_
      rotate_left
      · (intro V hV; (try dsimp only at hV); go_simp; with_reducible rfl)
      try simp only [Act.put, List.setIfInBounds_toArray, List.set_cons_zero, List.set_cons_succ]
      refine wpAnyM_take (i := 8) (v := ?_) rfl rfl (by kernel_rfl) (fun _ _ _ h => h) (Or.inl ⟨by rfl, ?_⟩) (by assumption) ?_
      rotate_left
      · (intro V hV; (try dsimp only at hV); go_simp; with_reducible rfl)
      try simp only [Act.put, List.setIfInBounds_toArray, List.set_cons_zero, List.set_cons_succ]
      refine wpAnyM_step (i := 0) (by kernel_rfl) rfl rfl (fun K hK => ?_)
      go_simp
      refine hK.out _ _ (fun _ => trivial) ?_
      clear hK K hHeld
      simp only [List.setIfInBounds_toArray]
      refine wpAnyM_step (i := 4) (by kernel_rfl) rfl rfl (fun K hK => ?_)
      refine step_append_any _ rfl (.tmp 21) (.tmp 24) 22 rfl w2.heap.size 42 i0 _ 3 40 Tryz.underlying22 hi0 hz0 hz1 hz2 rfl (by omega) (.slice (some ⟨w2.heap.size, 0, none⟩) 0 0) 0 [] rfl (by exact HO0.out) _ A k c (vvs (l.take k)) rfl (by exact HRT.out) (vvs_one _) (by unfold maxLen; omega) (by omega) (by show _ ≤ (w2.alloc _).heap.size; simp) ?_
      intro v3 w3 hown3 hg3 hat3
      obtain ⟨A3, c3', rfl⟩ := own_slice hown3
      have HO3 : Hid (OwV w2.heap.size w3 A3 k c3' (l.take k)) := hide (by unfold OwV; simpa using hown3)
      have HB3 : Hid (Below w2.heap.size w2 w3) := hide ((((Below.refl _ _).alloc (Nat.le_refl _) _).drew).grown hg3 (by show _ ≤ (w2.alloc _).heap.size; simp) (fun g hg => by simp [Value.ownBlock] at hg; omega))
      have HR3 := hide (HR2.out.below HB3.out)
      have hsz3 := HB3.out.size
      clear hown3 hg3 hat3 HO0 HRT
      refine hK.out _ _ (fun _ => trivial) ?_
      clear hK K
      have hrd := HR3.out.drop (k := k + 1) (by omega) hnc
      rw [HT.out] at hrd
      have HRD := hide hrd
      clear hrd
      simp only [List.setIfInBounds_toArray]
      refine wpAnyM_step (i := 9) (by kernel_rfl) rfl rfl (fun K hK => ?_)
      refine step_append_any _ rfl (.tmp 25) (.tmp 29) 22 rfl w2.heap.size 42 i0 _ 3 40 Tryz.underlying22 hi0 hz0 hz1 hz2 rfl (by omega) (.slice A3 k c3') k (vvs (l.take k)) (by show Value.slice A3 (0 + k) c3' = _; rw [Nat.zero_add]) (by exact HO3.out) _ T (n - (k + 1)) (c - (k + 1)) (vvs (l.drop (k + 1))) rfl (by exact HRD.out) (vvs_one _) (by unfold maxLen; omega) (by omega) hsz3 ?_
      intro v4 w4 hown4 hg4 hat4
      obtain ⟨A4, c4', rfl⟩ := own_slice hown4
      rw [← vvs_append, ← HUE.out] at hown4
      have HO4 : Hid (OwV w2.heap.size w4 A4 (k + (n - (k + 1))) c4' U) := hide hown4
      have HB4 : Hid (Below w2.heap.size w2 w4) := hide (HB3.out.grown hg4 hsz3 (fun g hg => (World.ownsRow.lt HO3.out g (by simpa using hg)).1))
      have K4 := hide (below_more HB2.out (Nat.le_refl _) (HB4.out.mono (Nat.le_refl _)))
      have HLN : Hid (U.length = k + (n - (k + 1))) := hide HO4.out.rd.len
      clear hown4 hg4 hat4 HRD
      refine hK.out _ _ (fun _ => trivial) ?_
      clear hK K
      simp only [List.setIfInBounds_toArray]
      refine wpAnyM_step (i := 10) (by kernel_rfl) rfl rfl (fun K hK => ?_)
      go_simp
      refine hK.out _ _ (fun h => absurd rfl h) ?_
      refine wpAnyM_done (by kernel_rfl) ?_ _
      clear hK K
      go_wp2_with fail
      go_ret
      exact ⟨A4, c4', by rw [HLN.out]; rfl, by rw [HLN.out]; exact HO4.out.rd, K4.out⟩
end Go.Proofs.YtpioelpmdaeieaaGreatDoor
