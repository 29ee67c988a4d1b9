/- settingWords, ruleWords. -/
import Derived.Test.YthbackkcamgidaaGreatDoorRuOw
namespace Go.Proofs.YthbackkcamgidaaGreatDoor
open Go Go.RowKit
set_option linter.unusedVariables false
theorem lit_own (W : World) (ks : List LB) (hk : ks.length ≤ 1000) : (W.alloc (.cells (svs ks).toArray 9)).ownsRow W.heap.size 9 1 (.slice (some ⟨W.heap.size, 0, none⟩) ks.length ks.length) ks.length (svs ks) := by
  refine ⟨by rw [svs_length, Nat.mul_one], .inr ⟨W.heap.size, ks.length, (svs ks).toArray, rfl, Nat.le_refl _, ?_⟩⟩
  exact ⟨Blk.new W 9 _, Nat.le_refl _, by unfold maxLen; omega, by simp [svs_length], by simp [svs_length, List.take_of_length_le]⟩
set_option maxRecDepth 100000 in
set_option maxHeartbeats 4000000 in
theorem settingWords_any (x : EU) (hx1 : x.pat.length ≤ 1000000) (hx2 : x.val.length ≤ 1000000) (w : World) : Calls Tryz.prog 55 #[.agg #[.int .i64 x.k, .string ⟨x.pat.toArray⟩, .string ⟨x.val.toArray⟩]] w fun e w' => ∃ A c, e = .returned (.slice A 3 c) ∧ w'.ownsRow w.heap.size 9 1 (.slice A 3 c) 3 (svs (envW x)) ∧ Below w.heap.size w w' := by
  obtain ⟨k, pat, val⟩ := x
  dsimp only at hx1 hx2
  have hza : ¬ 9223372036854775807 < pat.length + 1 := by omega
  have hzb : ¬ 9223372036854775807 < pat.length + 1 + val.length := by omega
  obtain ⟨z, hz⟩ : ∃ z, w.heap.size = z := ⟨_, rfl⟩
  have hs0 : (w.alloc (.cells #[.int .i64 k, .string ⟨pat.toArray⟩, .string ⟨val.toArray⟩] 42)).heap.size = z + 1 := by simp [hz]
  have fin : ∀ ks : List LB, ks.length = 3 → envW ⟨k, pat, val⟩ = ks → ∃ A c, Ending.returned (.slice (some ⟨z + 1, 0, none⟩) 3 3) = .returned (.slice A 3 c) ∧ ((w.alloc (.cells #[.int .i64 k, .string ⟨pat.toArray⟩, .string ⟨val.toArray⟩] 42)).alloc (.cells (svs ks).toArray 9)).ownsRow w.heap.size 9 1 (.slice A 3 c) 3 (svs (envW ⟨k, pat, val⟩)) ∧ Below w.heap.size w ((w.alloc (.cells #[.int .i64 k, .string ⟨pat.toArray⟩, .string ⟨val.toArray⟩] 42)).alloc (.cells (svs ks).toArray 9)) := by
    intro ks h3 he
    have ho := lit_own (w.alloc (.cells #[.int .i64 k, .string ⟨pat.toArray⟩, .string ⟨val.toArray⟩] 42)) ks (by omega)
    rw [h3, hs0] at ho
    refine ⟨_, _, rfl, ?_, ?_⟩
    · rw [he]; exact own_more ho (by omega)
    · rw [hz]; exact ((Below.refl z w).alloc (by omega) _).alloc (by rw [hs0]; omega) _
  clear hs0
  have HF := hide fin
  clear fin
  by_cases h1 : k = 1
  · subst h1
    have HE : Hid (envW ⟨1, pat, val⟩ = [wEnv, wKeep, pat]) := hide rfl
    go_enter Tryz.func55, Tryz.ntmps55
    go_wp2_with fail
    go_ret
    exact HF.out _ rfl HE.out
  have k1 : (k == 1) = false := beq_eq_false_iff_ne.2 h1
  by_cases h2 : k = 2
  · subst h2
    have HE : Hid (envW ⟨2, pat, val⟩ = [wEnv, wDrop, pat]) := hide rfl
    go_enter Tryz.func55, Tryz.ntmps55
    go_wp2_with fail
    go_ret
    exact HF.out _ rfl HE.out
  have k2 : (k == 2) = false := beq_eq_false_iff_ne.2 h2
  have HE : Hid (envW ⟨k, pat, val⟩ = [wEnv, wSet, pat ++ 61 :: val]) := hide (by unfold envW saidU; simp [h1, h2])
  have HC : Hid (((⟨pat.toArray⟩ : ByteArray) ++ ⟨#[61]⟩ ++ ⟨val.toArray⟩) = ⟨(pat ++ 61 :: val).toArray⟩) := hide (by apply ByteArray.ext; simp)
  clear h1 h2
  go_enter Tryz.func55, Tryz.ntmps55
  go_wp2_with fail
  rw [HC.out]
  go_ret
  exact HF.out _ rfl HE.out
set_option maxRecDepth 100000 in
set_option maxHeartbeats 16000000 in
theorem ruleWords_any (x : RV) (w : World) (hS : StdR w) (hO : Reads w w.heap.size 1 x.O x.on (ivs x.r.ops)) (hA : Reads w w.heap.size 1 x.A x.an (svs x.r.args)) (hon : x.on ≤ 1000) (han : x.an ≤ 1000) :
    Calls Tryz.prog 54 #[x.v] w fun e w' => ∃ A n c, e = .returned (.slice A n c) ∧ w'.ownsRow w.heap.size 9 1 (.slice A n c) n (svs (ruleW x.r)) ∧ Below w.heap.size w w' := by
  obtain ⟨i0, hi, hz0, hz1, hz2⟩ := info_parts infoStr
  obtain ⟨⟨al, ops, path, wi, args, mo⟩, O, on, oc, A, an, ac⟩ := x
  dsimp only at hO hA hon han
  unfold RV.v
  dsimp only
  obtain ⟨z, hz⟩ : ∃ z, w.heap.size = z := ⟨_, rfl⟩
  rw [hz] at hO hA
  have hal : args.length = an := by have := hA.1; rw [svs_length] at this; omega
  have hb0 := Blk.new w 40 #[.bool al, .slice O on oc, .string ⟨path.toArray⟩, .bool wi, .slice A an ac, .bool mo]
  have hB0 := (Below.refl z w).alloc (by omega) (.cells #[.bool al, .slice O on oc, .string ⟨path.toArray⟩, .bool wi, .slice A an ac, .bool mo] 40)
  have hO0 := hO.alloc (by omega) (.cells #[.bool al, .slice O on oc, .string ⟨path.toArray⟩, .bool wi, .slice A an ac, .bool mo] 40)
  have hA0 := hA.alloc (by omega) (.cells #[.bool al, .slice O on oc, .string ⟨path.toArray⟩, .bool wi, .slice A an ac, .bool mo] 40)
  have hs0 : (w.alloc (.cells #[.bool al, .slice O on oc, .string ⟨path.toArray⟩, .bool wi, .slice A an ac, .bool mo] 40)).heap.size = z + 1 := by simp [hz]
  have HS0 := hide (hS.below ((Below.refl _ w).alloc (Nat.le_refl _) (.cells #[.bool al, .slice O on oc, .string ⟨path.toArray⟩, .bool wi, .slice A an ac, .bool mo] 40)))
  rw [hz] at hb0
  have HK0 := hide hb0
  have HB0 := hide hB0
  have HO0 := hide hO0
  have HA0 := hide hA0
  clear hb0 hB0 hO0 hA0 hO hA hS
  go_enter Tryz.func54, Tryz.ntmps54
  refine wp_seq ?_
  go_upto_region 2 with (fail)
  have XW := hide (fun W h1 h2 => opsWord_any ops O on oc W h2 (by omega) h1)
  obtain ⟨W0, hW0⟩ : ∃ W0, w.alloc (.cells #[.bool al, .slice O on oc, .string ⟨path.toArray⟩, .bool wi, .slice A an ac, .bool mo] 40) = W0 := ⟨_, rfl⟩
  rw [hW0] at hs0 HS0 HK0 HB0 HO0 HA0 ⊢
  clear hW0
  have HSD : Hid (StdR W0.drew) := hide (HS0.out.below (below_drewN (Below.refl _ W0) 1))
  have HOD : Hid (Reads W0.drew W0.drew.heap.size 1 O on (ivs ops)) := hide ((HO0.out.drewN 1).more (by show z ≤ W0.heap.size; omega))
  have HAD : Hid (Reads W0.drew z 1 A an (svs args)) := hide (HA0.out.drewN 1)
  have HKD : Hid (Blk W0.drew z 40 #[.bool al, .slice O on oc, .string ⟨path.toArray⟩, .bool wi, .slice A an ac, .bool mo]) := hide (show Blk W0.drew _ _ _ from HK0.out)
  have HBD : Hid (Below z w W0.drew) := hide (below_drewN HB0.out 1)
  have HZD : Hid (W0.drew.heap.size = z + 1) := hide hs0
  have c0 := HK0.out.cell 0
  cases al with
  | false =>
    go_wp2_with fail
    have c1 := HK0.out.cell 1
    have c2 := HK0.out.cell 2
    refine wp_region_K (fun V => V.cell? ⟨z, 1, none⟩ = some (.slice O on oc) ∧ V.cell? ⟨z, 2, none⟩ = some (.string ⟨path.toArray⟩)) [6, 7] rfl ⟨c1, c2⟩ (fun hHeld => ?_)
    refine wpAnyK_takeF (i := 0) (v := ?_) rfl rfl (by kernel_rfl) (fun _ _ _ h => h) (Or.inl ⟨by rfl, ?_⟩) ?_
    rotate_left
    · (intro V hV; (try dsimp only at hV); go_simp; with_reducible rfl)
    try simp only [Act.put, List.setIfInBounds_toArray, List.set_cons_zero, List.set_cons_succ]
    refine wpAnyK_takeF (i := 1) (v := ?_) rfl rfl (by kernel_rfl) (fun _ _ _ h => h) (Or.inl ⟨by rfl, ?_⟩) ?_
    rotate_left
    · (intro V hV; (try dsimp only at hV); go_simp; with_reducible rfl)
    try simp only [Act.put, List.setIfInBounds_toArray, List.set_cons_zero, List.set_cons_succ]
    refine wpAnyK_takeF (i := 4) (v := ?_) rfl rfl (by kernel_rfl) (fun _ _ _ h => h) (Or.inl ⟨by rfl, ?_⟩) ?_
    rotate_left
    · (intro V hV; (try dsimp only at hV); go_simp; with_reducible rfl)
    try simp only [Act.put, List.setIfInBounds_toArray, List.set_cons_zero, List.set_cons_succ]
    refine wpAnyK_take (i := 2) (v := ?_) rfl rfl (by kernel_rfl) (fun _ _ _ h => h) (Or.inl ⟨by rfl, ?_⟩) (by assumption) ?_
    rotate_left
    · (intro V hV; (try dsimp only at hV); go_simp; with_reducible rfl)
    try simp only [Act.put, List.setIfInBounds_toArray, List.set_cons_zero, List.set_cons_succ]
    refine wpAnyK_take (i := 5) (v := ?_) rfl rfl (by kernel_rfl) (fun _ _ _ h => h) (Or.inl ⟨by rfl, ?_⟩) (by assumption) ?_
    rotate_left
    · (intro V hV; (try dsimp only at hV); go_simp; with_reducible rfl)
    try simp only [Act.put, List.setIfInBounds_toArray, List.set_cons_zero, List.set_cons_succ]
    refine wpAnyK_step (i := 3) (by kernel_rfl) rfl rfl (fun K hK => ?_)
    go_simp
    refine (XW.out _ HSD.out HOD.out).mono ?_
    rintro e V1 ⟨rfl, hb1⟩
    refine hK.out _ _ (fun _ _ => ⟨(hb1.cell (by show z < _; rw [HZD.out]; omega)).trans c1, (hb1.cell (by show z < _; rw [HZD.out]; omega)).trans c2⟩) ?_
    clear hK K hHeld
    have HB1 := hide (HBD.out.trans (hb1.mono (by rw [HZD.out]; omega)))
    have HK1 := hide (HKD.out.below hb1 (by rw [HZD.out]; omega))
    have HA1 := hide (HAD.out.below (hb1.mono (by rw [HZD.out]; omega)))
    have hs1 : z + 1 ≤ V1.heap.size := by have := hb1.size; rw [HZD.out] at this; exact this
    clear hb1 c1 c2 XW HSD HOD HZD HBD HKD HAD
    simp only [List.setIfInBounds_toArray]
    refine wpAnyK_step (i := 6) (by kernel_rfl) rfl rfl (fun K hK => ?_)
    go_simp
    generalize hW : V1.alloc _ = W2
    have hW2 : V1.alloc (.cells (svs [wDeny, opsWordU ops, path]).toArray 9) = W2 := hW
    have ho2 := lit_own V1 [wDeny, opsWordU ops, path] (by simp)
    have hb2 := HB1.out.alloc (by omega) (.cells (svs [wDeny, opsWordU ops, path]).toArray 9)
    have hk2 := HK1.out.alloc (.cells (svs [wDeny, opsWordU ops, path]).toArray 9)
    have ha2 := HA1.out.alloc (by omega) (.cells (svs [wDeny, opsWordU ops, path]).toArray 9)
    rw [hW2] at ho2 hb2 hk2 ha2
    have HB2 := hide hb2
    have HK2 := hide hk2
    have HA2 := hide ha2
    have HO2 := hide (own_more ho2 hs1)
    have hs2 : z + 1 ≤ W2.heap.size := by rw [← hW2]; simp; omega
    clear ho2 hb2 hk2 ha2 HB1 HK1 HA1 hW hW2
    generalize V1.heap.size = gb at *
    refine hK.out _ _ (fun _ h => absurd (by simp) h) ?_
    clear hK K
    simp only [List.setIfInBounds_toArray]
    refine wpAnyK_step (i := 7) (by kernel_rfl) rfl rfl (fun K hK => ?_)
    go_simp
    refine hK.out _ _ (fun _ h => absurd (by simp) h) ?_
    clear hK K
    simp only [List.setIfInBounds_toArray]
    refine wpAnyK_done (by kernel_rfl) ?_ _
    (try simp only [Exit.then])
    have c3 := HK2.out.cell 3
    have c4 := HK2.out.cell 4
    have c5 := HK2.out.cell 5
    cases wi with
    | false =>
      cases mo with
      | false =>
        have HRW : Hid (ruleW ⟨false, ops, path, false, args, false⟩ = [wDeny, opsWordU ops, path]) := hide rfl
        go_wp2_with fail
        go_ret
        exact ⟨_, _, _, rfl, by rw [HRW.out]; exact own_more HO2.out (by omega), by rw [hz]; exact HB2.out⟩
      | true =>
        have HRW : Hid (ruleW ⟨false, ops, path, false, args, true⟩ = [wDeny, opsWordU ops, path] ++ [wDots]) := hide rfl
        go_wp2_with (refine wpList_append_any _ rfl (.tmp 25) (.tmp 26) 38 rfl (z + 1) 9 i0 _ 1 16 Tryz.underlying38 hi hz0 hz1 hz2 rfl (by decide) _ _ _ rfl (World.ownsRow.alloc HO2.out _) _ _ 1 1 (svs [wDots]) rfl (one_str _ wDots) (svs_one _) ?c1 ?c2 ?c3 ?_)
        case c1 => unfold maxLen; simp
        case c2 => simp
        case c3 => simp; omega
        intro v' w3 hown2 hgr _
        obtain ⟨A3, c3', rfl⟩ := own_slice hown2
        have HB3 : Hid (Below z w w3) := hide (Below.grown (h := HB2.out.alloc (by omega) _) (hg := hgr) (by simp; omega) (fun g hg => by have := (World.ownsRow.lt HO2.out g hg).1; omega))
        have HO3 := hide hown2
        clear hgr hown2
        go_wp2_with fail
        go_ret
        exact ⟨_, _, _, rfl, by rw [HRW.out]; exact own_more HO3.out (by omega), by rw [hz]; exact HB3.out⟩
    | true =>
      cases mo with
      | false =>
        have HRW : Hid (ruleW ⟨false, ops, path, true, args, false⟩ = [wDeny, opsWordU ops, path] ++ [wArgs] ++ args) := hide (by simp [ruleW])
        go_wp2_with (refine wpList_append_any _ rfl (.tmp 16) (.tmp 17) 38 rfl (z + 1) 9 i0 _ 1 16 Tryz.underlying38 hi hz0 hz1 hz2 rfl (by decide) _ _ _ rfl (World.ownsRow.alloc HO2.out _) _ _ 1 1 (svs [wArgs]) rfl (one_str _ wArgs) (svs_one _) ?c1 ?c2 ?c3 ?_)
        case c1 => unfold maxLen; simp
        case c2 => simp
        case c3 => simp; omega
        intro v' w3 hown2 hgr _
        obtain ⟨A3, c3', rfl⟩ := own_slice hown2
        have hbg : Below (z + 1) W2 w3 := Below.grown (h := (Below.refl (z + 1) W2).alloc (by omega) _) (hg := hgr) (by simp; omega) (fun g hg => by have := (World.ownsRow.lt HO2.out g hg).1; omega)
        have HB3 := hide (HB2.out.trans (hbg.mono (by omega : z ≤ z + 1)))
        have HK3 := hide (HK2.out.below hbg (by omega))
        have HA3 := hide (HA2.out.below (hbg.mono (by omega : z ≤ z + 1)))
        have HO3 := hide hown2
        have hs3 : z + 1 ≤ w3.heap.size := by have := hbg.size; omega
        clear hgr hown2 hbg HB2 HK2 HA2 HO2 c3 c4 c5
        have c4 := HK3.out.cell 4
        have c5 := HK3.out.cell 5
        go_wp2_with (refine wpList_append_any _ rfl (.tmp 19) (.tmp 21) 38 rfl (z + 1) 9 i0 _ 1 16 Tryz.underlying38 hi hz0 hz1 hz2 rfl (by decide) _ _ _ rfl HO3.out z A an ac (svs args) rfl HA3.out (svs_one _) ?d1 ?d2 ?d3 ?_)
        case d1 => unfold maxLen; simp; omega
        case d2 => omega
        case d3 => omega
        intro v4 w4 hown4 hgr4 _
        obtain ⟨A4, c4', rfl⟩ := own_slice hown4
        have hbg4 : Below (z + 1) w3 w4 := Below.grown (h := Below.refl (z + 1) w3) (hg := hgr4) (by omega) (fun g hg => (World.ownsRow.lt HO3.out g hg).1)
        have HB4 := hide (HB3.out.trans (hbg4.mono (by omega : z ≤ z + 1)))
        have HK4 := hide (HK3.out.below hbg4 (by omega))
        have HO4 := hide hown4
        have hs4 : z + 1 ≤ w4.heap.size := by have := hbg4.size; omega
        clear hgr4 hown4 hbg4 HB3 HK3 HA3 HO3 c4 c5
        have c5 := HK4.out.cell 5
        go_wp2_with fail
        go_ret
        exact ⟨_, _, _, rfl, by rw [HRW.out, svs_append, svs_append]; exact own_more HO4.out (by omega), by rw [hz]; exact HB4.out⟩
      | true =>
        have HRW : Hid (ruleW ⟨false, ops, path, true, args, true⟩ = [wDeny, opsWordU ops, path] ++ [wArgs] ++ args ++ [wDots]) := hide (by simp [ruleW])
        go_wp2_with (refine wpList_append_any _ rfl (.tmp 16) (.tmp 17) 38 rfl (z + 1) 9 i0 _ 1 16 Tryz.underlying38 hi hz0 hz1 hz2 rfl (by decide) _ _ _ rfl (World.ownsRow.alloc HO2.out _) _ _ 1 1 (svs [wArgs]) rfl (one_str _ wArgs) (svs_one _) ?c1 ?c2 ?c3 ?_)
        case c1 => unfold maxLen; simp
        case c2 => simp
        case c3 => simp; omega
        intro v' w3 hown2 hgr _
        obtain ⟨A3, c3', rfl⟩ := own_slice hown2
        have hbg : Below (z + 1) W2 w3 := Below.grown (h := (Below.refl (z + 1) W2).alloc (by omega) _) (hg := hgr) (by simp; omega) (fun g hg => by have := (World.ownsRow.lt HO2.out g hg).1; omega)
        have HB3 := hide (HB2.out.trans (hbg.mono (by omega : z ≤ z + 1)))
        have HK3 := hide (HK2.out.below hbg (by omega))
        have HA3 := hide (HA2.out.below (hbg.mono (by omega : z ≤ z + 1)))
        have HO3 := hide hown2
        have hs3 : z + 1 ≤ w3.heap.size := by have := hbg.size; omega
        clear hgr hown2 hbg HB2 HK2 HA2 HO2 c3 c4 c5
        have c4 := HK3.out.cell 4
        have c5 := HK3.out.cell 5
        go_wp2_with (refine wpList_append_any _ rfl (.tmp 19) (.tmp 21) 38 rfl (z + 1) 9 i0 _ 1 16 Tryz.underlying38 hi hz0 hz1 hz2 rfl (by decide) _ _ _ rfl HO3.out z A an ac (svs args) rfl HA3.out (svs_one _) ?d1 ?d2 ?d3 ?_)
        case d1 => unfold maxLen; simp; omega
        case d2 => omega
        case d3 => omega
        intro v4 w4 hown4 hgr4 _
        obtain ⟨A4, c4', rfl⟩ := own_slice hown4
        have hbg4 : Below (z + 1) w3 w4 := Below.grown (h := Below.refl (z + 1) w3) (hg := hgr4) (by omega) (fun g hg => (World.ownsRow.lt HO3.out g hg).1)
        have HB4 := hide (HB3.out.trans (hbg4.mono (by omega : z ≤ z + 1)))
        have HK4 := hide (HK3.out.below hbg4 (by omega))
        have HO4 := hide hown4
        have hs4 : z + 1 ≤ w4.heap.size := by have := hbg4.size; omega
        clear hgr4 hown4 hbg4 HB3 HK3 HA3 HO3 c4 c5
        have c5 := HK4.out.cell 5
        go_wp2_with (refine wpList_append_any _ rfl (.tmp 25) (.tmp 26) 38 rfl (z + 1) 9 i0 _ 1 16 Tryz.underlying38 hi hz0 hz1 hz2 rfl (by decide) _ _ _ rfl (World.ownsRow.alloc HO4.out _) _ _ 1 1 (svs [wDots]) rfl (one_str _ wDots) (svs_one _) ?e1 ?e2 ?e3 ?_)
        case e1 => unfold maxLen; simp; omega
        case e2 => omega
        case e3 => simp; omega
        intro v5 w5 hown5 hgr5 _
        obtain ⟨A5, c5', rfl⟩ := own_slice hown5
        have HB5 : Hid (Below z w w5) := hide (HB4.out.trans ((Below.grown (h := (Below.refl (z + 1) w4).alloc (by omega) _) (hg := hgr5) (by simp; omega) (fun g hg => by have := (World.ownsRow.lt HO4.out g hg).1; omega) : Below (z + 1) w4 w5).mono (by omega : z ≤ z + 1)))
        have HO5 := hide hown5
        clear hgr5 hown5
        go_wp2_with fail
        go_ret
        exact ⟨_, _, _, rfl, by rw [HRW.out, svs_append, svs_append, svs_append]; exact own_more HO5.out (by omega), by rw [hz]; exact HB5.out⟩
  | true =>
    go_wp2_with fail
    have c1 := HK0.out.cell 1
    have c2 := HK0.out.cell 2
    refine wp_region_K (fun V => V.cell? ⟨z, 1, none⟩ = some (.slice O on oc) ∧ V.cell? ⟨z, 2, none⟩ = some (.string ⟨path.toArray⟩)) [6, 7] rfl ⟨c1, c2⟩ (fun hHeld => ?_)
    refine wpAnyK_takeF (i := 0) (v := ?_) rfl rfl (by kernel_rfl) (fun _ _ _ h => h) (Or.inl ⟨by rfl, ?_⟩) ?_
    rotate_left
    · (intro V hV; (try dsimp only at hV); go_simp; with_reducible rfl)
    try simp only [Act.put, List.setIfInBounds_toArray, List.set_cons_zero, List.set_cons_succ]
    refine wpAnyK_takeF (i := 1) (v := ?_) rfl rfl (by kernel_rfl) (fun _ _ _ h => h) (Or.inl ⟨by rfl, ?_⟩) ?_
    rotate_left
    · (intro V hV; (try dsimp only at hV); go_simp; with_reducible rfl)
    try simp only [Act.put, List.setIfInBounds_toArray, List.set_cons_zero, List.set_cons_succ]
    refine wpAnyK_takeF (i := 4) (v := ?_) rfl rfl (by kernel_rfl) (fun _ _ _ h => h) (Or.inl ⟨by rfl, ?_⟩) ?_
    rotate_left
    · (intro V hV; (try dsimp only at hV); go_simp; with_reducible rfl)
    try simp only [Act.put, List.setIfInBounds_toArray, List.set_cons_zero, List.set_cons_succ]
    refine wpAnyK_take (i := 2) (v := ?_) rfl rfl (by kernel_rfl) (fun _ _ _ h => h) (Or.inl ⟨by rfl, ?_⟩) (by assumption) ?_
    rotate_left
    · (intro V hV; (try dsimp only at hV); go_simp; with_reducible rfl)
    try simp only [Act.put, List.setIfInBounds_toArray, List.set_cons_zero, List.set_cons_succ]
    refine wpAnyK_take (i := 5) (v := ?_) rfl rfl (by kernel_rfl) (fun _ _ _ h => h) (Or.inl ⟨by rfl, ?_⟩) (by assumption) ?_
    rotate_left
    · (intro V hV; (try dsimp only at hV); go_simp; with_reducible rfl)
    try simp only [Act.put, List.setIfInBounds_toArray, List.set_cons_zero, List.set_cons_succ]
    refine wpAnyK_step (i := 3) (by kernel_rfl) rfl rfl (fun K hK => ?_)
    go_simp
    refine (XW.out _ HSD.out HOD.out).mono ?_
    rintro e V1 ⟨rfl, hb1⟩
    refine hK.out _ _ (fun _ _ => ⟨(hb1.cell (by show z < _; rw [HZD.out]; omega)).trans c1, (hb1.cell (by show z < _; rw [HZD.out]; omega)).trans c2⟩) ?_
    clear hK K hHeld
    have HB1 := hide (HBD.out.trans (hb1.mono (by rw [HZD.out]; omega)))
    have HK1 := hide (HKD.out.below hb1 (by rw [HZD.out]; omega))
    have HA1 := hide (HAD.out.below (hb1.mono (by rw [HZD.out]; omega)))
    have hs1 : z + 1 ≤ V1.heap.size := by have := hb1.size; rw [HZD.out] at this; exact this
    clear hb1 c1 c2 XW HSD HOD HZD HBD HKD HAD
    simp only [List.setIfInBounds_toArray]
    refine wpAnyK_step (i := 6) (by kernel_rfl) rfl rfl (fun K hK => ?_)
    go_simp
    generalize hW : V1.alloc _ = W2
    have hW2 : V1.alloc (.cells (svs [wAllow, opsWordU ops, path]).toArray 9) = W2 := hW
    have ho2 := lit_own V1 [wAllow, opsWordU ops, path] (by simp)
    have hb2 := HB1.out.alloc (by omega) (.cells (svs [wAllow, opsWordU ops, path]).toArray 9)
    have hk2 := HK1.out.alloc (.cells (svs [wAllow, opsWordU ops, path]).toArray 9)
    have ha2 := HA1.out.alloc (by omega) (.cells (svs [wAllow, opsWordU ops, path]).toArray 9)
    rw [hW2] at ho2 hb2 hk2 ha2
    have HB2 := hide hb2
    have HK2 := hide hk2
    have HA2 := hide ha2
    have HO2 := hide (own_more ho2 hs1)
    have hs2 : z + 1 ≤ W2.heap.size := by rw [← hW2]; simp; omega
    clear ho2 hb2 hk2 ha2 HB1 HK1 HA1 hW hW2
    generalize V1.heap.size = gb at *
    refine hK.out _ _ (fun _ h => absurd (by simp) h) ?_
    clear hK K
    simp only [List.setIfInBounds_toArray]
    refine wpAnyK_step (i := 7) (by kernel_rfl) rfl rfl (fun K hK => ?_)
    go_simp
    refine hK.out _ _ (fun _ h => absurd (by simp) h) ?_
    clear hK K
    simp only [List.setIfInBounds_toArray]
    refine wpAnyK_done (by kernel_rfl) ?_ _
    (try simp only [Exit.then])
    have c3 := HK2.out.cell 3
    have c4 := HK2.out.cell 4
    have c5 := HK2.out.cell 5
    cases wi with
    | false =>
      cases mo with
      | false =>
        have HRW : Hid (ruleW ⟨true, ops, path, false, args, false⟩ = [wAllow, opsWordU ops, path]) := hide rfl
        go_wp2_with fail
        go_ret
        exact ⟨_, _, _, rfl, by rw [HRW.out]; exact own_more HO2.out (by omega), by rw [hz]; exact HB2.out⟩
      | true =>
        have HRW : Hid (ruleW ⟨true, ops, path, false, args, true⟩ = [wAllow, opsWordU ops, path] ++ [wDots]) := hide rfl
        go_wp2_with (refine wpList_append_any _ rfl (.tmp 25) (.tmp 26) 38 rfl (z + 1) 9 i0 _ 1 16 Tryz.underlying38 hi hz0 hz1 hz2 rfl (by decide) _ _ _ rfl (World.ownsRow.alloc HO2.out _) _ _ 1 1 (svs [wDots]) rfl (one_str _ wDots) (svs_one _) ?c1 ?c2 ?c3 ?_)
        case c1 => unfold maxLen; simp
        case c2 => simp
        case c3 => simp; omega
        intro v' w3 hown2 hgr _
        obtain ⟨A3, c3', rfl⟩ := own_slice hown2
        have HB3 : Hid (Below z w w3) := hide (Below.grown (h := HB2.out.alloc (by omega) _) (hg := hgr) (by simp; omega) (fun g hg => by have := (World.ownsRow.lt HO2.out g hg).1; omega))
        have HO3 := hide hown2
        clear hgr hown2
        go_wp2_with fail
        go_ret
        exact ⟨_, _, _, rfl, by rw [HRW.out]; exact own_more HO3.out (by omega), by rw [hz]; exact HB3.out⟩
    | true =>
      cases mo with
      | false =>
        have HRW : Hid (ruleW ⟨true, ops, path, true, args, false⟩ = [wAllow, opsWordU ops, path] ++ [wArgs] ++ args) := hide (by simp [ruleW])
        go_wp2_with (refine wpList_append_any _ rfl (.tmp 16) (.tmp 17) 38 rfl (z + 1) 9 i0 _ 1 16 Tryz.underlying38 hi hz0 hz1 hz2 rfl (by decide) _ _ _ rfl (World.ownsRow.alloc HO2.out _) _ _ 1 1 (svs [wArgs]) rfl (one_str _ wArgs) (svs_one _) ?c1 ?c2 ?c3 ?_)
        case c1 => unfold maxLen; simp
        case c2 => simp
        case c3 => simp; omega
        intro v' w3 hown2 hgr _
        obtain ⟨A3, c3', rfl⟩ := own_slice hown2
        have hbg : Below (z + 1) W2 w3 := Below.grown (h := (Below.refl (z + 1) W2).alloc (by omega) _) (hg := hgr) (by simp; omega) (fun g hg => by have := (World.ownsRow.lt HO2.out g hg).1; omega)
        have HB3 := hide (HB2.out.trans (hbg.mono (by omega : z ≤ z + 1)))
        have HK3 := hide (HK2.out.below hbg (by omega))
        have HA3 := hide (HA2.out.below (hbg.mono (by omega : z ≤ z + 1)))
        have HO3 := hide hown2
        have hs3 : z + 1 ≤ w3.heap.size := by have := hbg.size; omega
        clear hgr hown2 hbg HB2 HK2 HA2 HO2 c3 c4 c5
        have c4 := HK3.out.cell 4
        have c5 := HK3.out.cell 5
        go_wp2_with (refine wpList_append_any _ rfl (.tmp 19) (.tmp 21) 38 rfl (z + 1) 9 i0 _ 1 16 Tryz.underlying38 hi hz0 hz1 hz2 rfl (by decide) _ _ _ rfl HO3.out z A an ac (svs args) rfl HA3.out (svs_one _) ?d1 ?d2 ?d3 ?_)
        case d1 => unfold maxLen; simp; omega
        case d2 => omega
        case d3 => omega
        intro v4 w4 hown4 hgr4 _
        obtain ⟨A4, c4', rfl⟩ := own_slice hown4
        have hbg4 : Below (z + 1) w3 w4 := Below.grown (h := Below.refl (z + 1) w3) (hg := hgr4) (by omega) (fun g hg => (World.ownsRow.lt HO3.out g hg).1)
        have HB4 := hide (HB3.out.trans (hbg4.mono (by omega : z ≤ z + 1)))
        have HK4 := hide (HK3.out.below hbg4 (by omega))
        have HO4 := hide hown4
        have hs4 : z + 1 ≤ w4.heap.size := by have := hbg4.size; omega
        clear hgr4 hown4 hbg4 HB3 HK3 HA3 HO3 c4 c5
        have c5 := HK4.out.cell 5
        go_wp2_with fail
        go_ret
        exact ⟨_, _, _, rfl, by rw [HRW.out, svs_append, svs_append]; exact own_more HO4.out (by omega), by rw [hz]; exact HB4.out⟩
      | true =>
        have HRW : Hid (ruleW ⟨true, ops, path, true, args, true⟩ = [wAllow, opsWordU ops, path] ++ [wArgs] ++ args ++ [wDots]) := hide (by simp [ruleW])
        go_wp2_with (refine wpList_append_any _ rfl (.tmp 16) (.tmp 17) 38 rfl (z + 1) 9 i0 _ 1 16 Tryz.underlying38 hi hz0 hz1 hz2 rfl (by decide) _ _ _ rfl (World.ownsRow.alloc HO2.out _) _ _ 1 1 (svs [wArgs]) rfl (one_str _ wArgs) (svs_one _) ?c1 ?c2 ?c3 ?_)
        case c1 => unfold maxLen; simp
        case c2 => simp
        case c3 => simp; omega
        intro v' w3 hown2 hgr _
        obtain ⟨A3, c3', rfl⟩ := own_slice hown2
        have hbg : Below (z + 1) W2 w3 := Below.grown (h := (Below.refl (z + 1) W2).alloc (by omega) _) (hg := hgr) (by simp; omega) (fun g hg => by have := (World.ownsRow.lt HO2.out g hg).1; omega)
        have HB3 := hide (HB2.out.trans (hbg.mono (by omega : z ≤ z + 1)))
        have HK3 := hide (HK2.out.below hbg (by omega))
        have HA3 := hide (HA2.out.below (hbg.mono (by omega : z ≤ z + 1)))
        have HO3 := hide hown2
        have hs3 : z + 1 ≤ w3.heap.size := by have := hbg.size; omega
        clear hgr hown2 hbg HB2 HK2 HA2 HO2 c3 c4 c5
        have c4 := HK3.out.cell 4
        have c5 := HK3.out.cell 5
        go_wp2_with (refine wpList_append_any _ rfl (.tmp 19) (.tmp 21) 38 rfl (z + 1) 9 i0 _ 1 16 Tryz.underlying38 hi hz0 hz1 hz2 rfl (by decide) _ _ _ rfl HO3.out z A an ac (svs args) rfl HA3.out (svs_one _) ?d1 ?d2 ?d3 ?_)
        case d1 => unfold maxLen; simp; omega
        case d2 => omega
        case d3 => omega
        intro v4 w4 hown4 hgr4 _
        obtain ⟨A4, c4', rfl⟩ := own_slice hown4
        have hbg4 : Below (z + 1) w3 w4 := Below.grown (h := Below.refl (z + 1) w3) (hg := hgr4) (by omega) (fun g hg => (World.ownsRow.lt HO3.out g hg).1)
        have HB4 := hide (HB3.out.trans (hbg4.mono (by omega : z ≤ z + 1)))
        have HK4 := hide (HK3.out.below hbg4 (by omega))
        have HO4 := hide hown4
        have hs4 : z + 1 ≤ w4.heap.size := by have := hbg4.size; omega
        clear hgr4 hown4 hbg4 HB3 HK3 HA3 HO3 c4 c5
        have c5 := HK4.out.cell 5
        go_wp2_with (refine wpList_append_any _ rfl (.tmp 25) (.tmp 26) 38 rfl (z + 1) 9 i0 _ 1 16 Tryz.underlying38 hi hz0 hz1 hz2 rfl (by decide) _ _ _ rfl (World.ownsRow.alloc HO4.out _) _ _ 1 1 (svs [wDots]) rfl (one_str _ wDots) (svs_one _) ?e1 ?e2 ?e3 ?_)
        case e1 => unfold maxLen; simp; omega
        case e2 => omega
        case e3 => simp; omega
        intro v5 w5 hown5 hgr5 _
        obtain ⟨A5, c5', rfl⟩ := own_slice hown5
        have HB5 : Hid (Below z w w5) := hide (HB4.out.trans ((Below.grown (h := (Below.refl (z + 1) w4).alloc (by omega) _) (hg := hgr5) (by simp; omega) (fun g hg => by have := (World.ownsRow.lt HO4.out g hg).1; omega) : Below (z + 1) w4 w5).mono (by omega : z ≤ z + 1)))
        have HO5 := hide hown5
        clear hgr5 hown5
        go_wp2_with fail
        go_ret
        exact ⟨_, _, _, rfl, by rw [HRW.out, svs_append, svs_append, svs_append]; exact own_more HO5.out (by omega), by rw [hz]; exact HB5.out⟩

end Go.Proofs.YthbackkcamgidaaGreatDoor
