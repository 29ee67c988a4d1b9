/- The contract of change. -/
import Derived.Test.YtpioelpmdaeieaaGreatDoorVarI
namespace Go.Proofs.YtpioelpmdaeieaaGreatDoor
open Go.RowKit
set_option linter.unusedVariables false
set_option maxRecDepth 100000 in
set_option maxHeartbeats 8000000 in
theorem change_set (l : List Vr) (hs : ∀ x ∈ l, x.name.length ≤ 100000) (s : LB) (hsn : s.length ≤ 100000) (v : LB) (p : Nat) (A : Option Addr) (n c : Nat) (w : World) (hR : RdV w A n l) (hn : n ≤ 1000) (hnc : n ≤ c) (hp : p < w.heap.size) (hpc : w.cell? ⟨p, 0, none⟩ = some (.string ⟨v.toArray⟩)) :
    Calls Tryz.prog 30 #[.slice A n c, .string ⟨s.toArray⟩, .func (.func 31) #[] #[.pointer (some ⟨p, 0, none⟩)]] w fun e w' => ∃ A' c', e = .returned (.tuple #[.slice A' (chgP l s (setV v)).1.length c', .int .i64 ((chgP l s (setV v)).2 : Int)]) ∧ OwV w.heap.size w' A' (chgP l s (setV v)).1.length c' (chgP l s (setV v)).1 ∧ Below w.heap.size w w' := by
  have hl := hR.len
  obtain ⟨RL, hRL⟩ : ∃ R, (chgP l s (setV v)).1 = R := ⟨_, rfl⟩
  obtain ⟨RE, hRE⟩ : ∃ R, (chgP l s (setV v)).2 = R := ⟨_, rfl⟩
  rw [hRL, hRE]
  have HCH : Hid ((RL, RE) = chgP l s (setV v)) := hide (by rw [← hRL, ← hRE])
  obtain ⟨o, ho⟩ : ∃ o, oldP l s = o := ⟨_, rfl⟩
  obtain ⟨k, hk⟩ : ∃ k, findP l s = k := ⟨_, rfl⟩
  obtain ⟨fo, hfo⟩ : ∃ fo, foundP l s = fo := ⟨_, rfl⟩
  obtain ⟨ck, hck⟩ : ∃ ck, checkP l = ck := ⟨_, rfl⟩
  have hkl : k ≤ n := by rw [← hk, ← hl]; exact (bsF_le l s _ 0 _ (Nat.zero_le _)).2
  have HKF : Hid (fo = true → ∃ y, l[k]? = some y ∧ o = y ∧ k < n ∧ y.name.length ≤ 100000) := hide (fun h => by
    rw [← hfo] at h
    have h1 := found_lt h
    rw [hk] at h1
    refine ⟨l[k], List.getElem?_eq_getElem h1, ?_, by omega, hs _ (List.getElem_mem h1)⟩
    rw [← ho, oldP, if_pos h, hk, List.getElem?_eq_getElem h1]; rfl)
  have HKN : Hid (fo = false → o = ⟨s, [], false⟩) := hide (fun h => by rw [← ho, oldP, if_neg (by rw [hfo, h]; decide)])
  have XF := hide (find_any l s A n c w hR hn)
  have XC := hide (fun W (h : RdV W A n l) => check_any l hs A n c W h hn)
  have XL := hide (fun W (h : RdV W A n l) => list_any l A n c W h hn)
  rw [hk, hfo] at XF
  rw [hck] at XC
  have HCE : Hid ((RL, RE) = if (ck && validP ((setV v) o)) = true then (if fo = true then (l.take k ++ [(setV v) o] ++ l.drop (k + 1), 0) else if 64 ≤ l.length then (l, 4) else (l.take k ++ [(setV v) o] ++ l.drop k, 0)) else (l, 2)) := hide (by rw [HCH.out]; unfold chgP; rw [hk, hfo, hck, ho])
  have HR := hide hR
  have HL := hide hl
  clear hR hl hs hRL hRE HCH ho hk hfo hck
  have HPC := hide hpc
  clear hpc
  have XS := hide (fun (x : Vr) (W : World) (h1 : p < W.heap.size) (h2 : W.cell? ⟨p, 0, none⟩ = some (.string ⟨v.toArray⟩)) => set1_any x v p W h1 h2)
  cases fo with
  | false =>
    have HO := HKN.out rfl
    subst HO
    clear HKF HKN
    go_enter Tryz.func30, Tryz.ntmps30
    go_wp2_with fail
    refine XF.out.mono ?_
    rintro e w1 ⟨rfl, hb⟩
    have HB1 := hide hb
    have HR1 := hide (HR.out.below hb)
    have HP1 : Hid (w1.cell? ⟨p, 0, none⟩ = some (.string ⟨v.toArray⟩)) := hide ((hb.cell (p := ⟨p, 0, none⟩) hp).trans HPC.out)
    have hp1 : p < w1.heap.size := Nat.lt_of_lt_of_le hp hb.size
    clear hb
    obtain ⟨z, hz⟩ : ∃ z, w1.heap.size = z := ⟨_, rfl⟩
    obtain ⟨W2, hW2⟩ : ∃ W, w1.alloc (.cells #[.string ⟨s.toArray⟩, .string ⟨#[]⟩, .bool false] 42) = W := ⟨_, rfl⟩
    have HB2 : Hid (Below w.heap.size w W2) := hide (by rw [← hW2]; exact HB1.out.alloc HB1.out.size _)
    have HR2 : Hid (RdV W2 A n l) := hide (by rw [← hW2]; exact (Reads.alloc HR1.out (Nat.le_refl _) _).more (by simp))
    have b2 : Blk W2 z 42 #[.string ⟨s.toArray⟩, .string ⟨#[]⟩, .bool false] := by rw [← hW2, ← hz]; exact Blk.new w1 42 _
    have hz2 : z < W2.heap.size := by rw [← hW2, ← hz]; simp
    have HP2 : Hid (W2.cell? ⟨p, 0, none⟩ = some (.string ⟨v.toArray⟩)) := hide (by rw [← hW2]; exact (World.cell?_alloc_lt _ _ _ hp1).trans HP1.out)
    have hp2 : p < W2.heap.size := by rw [← hW2]; simp; omega
    have XS2 := hide (XS.out ⟨s, [], false⟩ W2 hp2 HP2.out)
    obtain ⟨d0, d1, d2, _, _, _⟩ := Blk.three b2
    have HD := hide (⟨d0, d1, d2⟩ : W2.cell? ⟨z, 0, none⟩ = some (.string ⟨s.toArray⟩) ∧ W2.cell? ⟨z, 1, none⟩ = some (.string ⟨#[]⟩) ∧ W2.cell? ⟨z, 2, none⟩ = some (.bool false))
    have HW2 := hide hW2
    have HZ := hide hz
    clear hW2 hz b2 d0 d1 d2
    go_wp2_with fail
    try rw [HW2.out]
    try rw [HZ.out]
    refine XS2.out.mono ?_
    rintro e w3 ⟨rfl, hb⟩
    have HB3 := hide (below_more HB2.out (Nat.le_refl _) hb)
    have HR3 := hide (HR2.out.below hb)
    have HD3 := hide (⟨(hb.cell (p := ⟨z, 0, none⟩) hz2).trans HD.out.1, (hb.cell (p := ⟨z, 1, none⟩) hz2).trans HD.out.2.1, (hb.cell (p := ⟨z, 2, none⟩) hz2).trans HD.out.2.2⟩ : w3.cell? ⟨z, 0, none⟩ = some (.string ⟨s.toArray⟩) ∧ w3.cell? ⟨z, 1, none⟩ = some (.string ⟨#[]⟩) ∧ w3.cell? ⟨z, 2, none⟩ = some (.bool false))
    have hz3 : z < w3.heap.size := Nat.lt_of_lt_of_le hz2 hb.size
    unfold setV Vr.v
    dsimp only
    clear hb XS2 HD HR2 HB2 HW2 HZ
    obtain ⟨y4, hy4⟩ : ∃ z, w3.heap.size = z := ⟨_, rfl⟩
    obtain ⟨W4, hW4⟩ : ∃ W, w3.alloc (.cells #[.string ⟨s.toArray⟩, .string ⟨v.toArray⟩, .bool false] 42) = W := ⟨_, rfl⟩
    have HB4 : Hid (Below w.heap.size w W4) := hide (by rw [← hW4]; exact HB3.out.alloc HB3.out.size _)
    have HR4 : Hid (RdV W4 A n l) := hide (by rw [← hW4]; exact (Reads.alloc HR3.out (Nat.le_refl _) _).more (by simp))
    have b4 : Blk W4 y4 42 #[.string ⟨s.toArray⟩, .string ⟨v.toArray⟩, .bool false] := by rw [← hW4, ← hy4]; exact Blk.new w3 42 _
    have hy4' : y4 < W4.heap.size := by rw [← hW4, ← hy4]; simp
    have hz4 : z < W4.heap.size := by rw [← hW4]; simp; omega
    have HD4 := hide (by rw [← hW4]; exact ⟨(World.cell?_alloc_lt _ _ _ hz3).trans HD3.out.1, (World.cell?_alloc_lt _ _ _ hz3).trans HD3.out.2.1, (World.cell?_alloc_lt _ _ _ hz3).trans HD3.out.2.2⟩ : W4.cell? ⟨z, 0, none⟩ = some (.string ⟨s.toArray⟩) ∧ W4.cell? ⟨z, 1, none⟩ = some (.string ⟨#[]⟩) ∧ W4.cell? ⟨z, 2, none⟩ = some (.bool false))
    obtain ⟨d0, d1, d2, _, _, _⟩ := Blk.three b4
    have HX4 := hide (⟨d0, d1, d2⟩ : W4.cell? ⟨y4, 0, none⟩ = some (.string ⟨s.toArray⟩) ∧ W4.cell? ⟨y4, 1, none⟩ = some (.string ⟨v.toArray⟩) ∧ W4.cell? ⟨y4, 2, none⟩ = some (.bool false))
    have HW4 := hide hW4
    have HY := hide hy4
    clear hW4 hy4 b4 d0 d1 d2
    have XC4 := hide (XC.out W4 HR4.out)
    go_wp2_with fail
    try rw [HW4.out]
    try rw [HY.out]
    refine XC4.out.mono ?_
    rintro e w5 ⟨rfl, hb⟩
    have HB5 := hide (below_more HB4.out (Nat.le_refl _) hb)
    have HR5 := hide (HR4.out.below hb)
    have hx5 : w5.cell? ⟨y4, 0, none⟩ = some (.string ⟨s.toArray⟩) ∧ w5.cell? ⟨y4, 1, none⟩ = some (.string ⟨v.toArray⟩) ∧ w5.cell? ⟨y4, 2, none⟩ = some (.bool false) := ⟨(hb.cell (p := ⟨y4, 0, none⟩) hy4').trans HX4.out.1, (hb.cell (p := ⟨y4, 1, none⟩) hy4').trans HX4.out.2.1, (hb.cell (p := ⟨y4, 2, none⟩) hy4').trans HX4.out.2.2⟩
    have hd5 : w5.cell? ⟨z, 0, none⟩ = some (.string ⟨s.toArray⟩) ∧ w5.cell? ⟨z, 1, none⟩ = some (.string ⟨#[]⟩) ∧ w5.cell? ⟨z, 2, none⟩ = some (.bool false) := ⟨(hb.cell (p := ⟨z, 0, none⟩) hz4).trans HD4.out.1, (hb.cell (p := ⟨z, 1, none⟩) hz4).trans HD4.out.2.1, (hb.cell (p := ⟨z, 2, none⟩) hz4).trans HD4.out.2.2⟩
    have hy5 : y4 < w5.heap.size := Nat.lt_of_lt_of_le hy4' hb.size
    have hz5 : z < w5.heap.size := Nat.lt_of_lt_of_le hz4 hb.size
    clear hb XC4 HX4 HD4 HR4 HB4 HW4 HY HD3 HR3 HB3
    have HX5 := hide hx5
    have HD5 := hide hd5
    have XV5 := hide (fun W => valid_any (⟨s, v, false⟩ : Vr) hsn W)
    clear hd5
    cases ck with
    | false =>
      obtain ⟨rfl, rfl⟩ : RL = l ∧ RE = 2 := by have := HCE.out; simpa using this
      go_wp2_with fail
      refine (XL.out _ HR5.out).mono ?_
      rintro e w9 ⟨A', c', rfl, hO, hb⟩
      have HO := hide (own_more hO HB5.out.size)
      have HB9 := hide (below_more HB5.out (Nat.le_refl _) hb)
      have HL' := hide HL.out
      clear hO hb
      go_wp2_with fail
      refine bodyPost_ret (v := .tuple #[.slice A' n c', .int .i64 2]) (by simp only [results, Tryz.results30]; go_simp) rfl ⟨A', c', by rw [HL'.out]; rfl, by rw [HL'.out]; exact HO.out, HB9.out⟩
    | true =>
      obtain ⟨x0, x1, x2⟩ := hx5
      go_wp2_with fail
      obtain ⟨q, hq⟩ : ∃ q, validP (⟨s, v, false⟩ : Vr) = q := ⟨_, rfl⟩
      rw [hq] at XV5
      refine (XV5.out _).mono ?_
      rintro e w6 ⟨rfl, hb⟩
      have HB6 := hide (below_more HB5.out (Nat.le_refl _) hb)
      have HR6 := hide (HR5.out.below hb)
      have HX6 := hide (⟨(hb.cell (p := ⟨y4, 0, none⟩) hy5).trans HX5.out.1, (hb.cell (p := ⟨y4, 1, none⟩) hy5).trans HX5.out.2.1, (hb.cell (p := ⟨y4, 2, none⟩) hy5).trans HX5.out.2.2⟩ : w6.cell? ⟨y4, 0, none⟩ = some (.string ⟨s.toArray⟩) ∧ w6.cell? ⟨y4, 1, none⟩ = some (.string ⟨v.toArray⟩) ∧ w6.cell? ⟨y4, 2, none⟩ = some (.bool false))
      have HD6 := hide (⟨(hb.cell (p := ⟨z, 0, none⟩) hz5).trans HD5.out.1, (hb.cell (p := ⟨z, 1, none⟩) hz5).trans HD5.out.2.1, (hb.cell (p := ⟨z, 2, none⟩) hz5).trans HD5.out.2.2⟩ : w6.cell? ⟨z, 0, none⟩ = some (.string ⟨s.toArray⟩) ∧ w6.cell? ⟨z, 1, none⟩ = some (.string ⟨#[]⟩) ∧ w6.cell? ⟨z, 2, none⟩ = some (.bool false))
      have hy6 : y4 < w6.heap.size := Nat.lt_of_lt_of_le hy5 hb.size
      clear hb x0 x1 x2 HX5 HD5 XV5
      have HQ := hide hq
      clear hq
      cases q with
      | false =>
        obtain ⟨rfl, rfl⟩ : RL = l ∧ RE = 2 := by have := HCE.out; rw [if_neg (by rw [show (true && validP ((setV v) ⟨s, [], false⟩)) = false from (Bool.true_and _).trans HQ.out]; decide)] at this; simpa using this
        go_wp2_with fail
        refine (XL.out _ HR6.out).mono ?_
        rintro e w9 ⟨A', c', rfl, hO, hb⟩
        have HO := hide (own_more hO HB6.out.size)
        have HB9 := hide (below_more HB6.out (Nat.le_refl _) hb)
        have HL' := hide HL.out
        clear hO hb
        go_wp2_with fail
        refine bodyPost_ret (v := .tuple #[.slice A' n c', .int .i64 2]) (by simp only [results, Tryz.results30]; go_simp) rfl ⟨A', c', by rw [HL'.out]; rfl, by rw [HL'.out]; exact HO.out, HB9.out⟩
      | true =>
        have HCV : Hid ((RL, RE) = if 64 ≤ l.length then (l, 4) else (l.take k ++ [(⟨s, v, false⟩ : Vr)] ++ l.drop k, 0)) := hide (by
          have e := (Bool.true_and _).trans HQ.out
          rw [HCE.out]
          unfold setV at *
          dsimp only at *
          simp only [e, if_true, if_false, Bool.false_eq_true])
        clear HCE HQ
        by_cases h64 : 64 ≤ n
        · have HS : Hid ((RL, RE) = (l, 4)) := hide (by rw [HCV.out, if_pos (by rw [HL.out]; exact h64)])
          clear HCV
          have k64 : ¬ (n : Int) < 64 := by omega
          have k65 : (64 : Int) ≤ (n : Int) := by omega
          obtain ⟨rfl, rfl⟩ : RL = l ∧ RE = 4 := by have := HS.out; simpa using this
          go_wp2_with fail
          refine (XL.out _ HR6.out).mono ?_
          rintro e w9 ⟨A', c', rfl, hO, hb⟩
          have HO := hide (own_more hO HB6.out.size)
          have HB9 := hide (below_more HB6.out (Nat.le_refl _) hb)
          have HL' := hide HL.out
          clear hO hb
          go_wp2_with fail
          refine bodyPost_ret (v := .tuple #[.slice A' n c', .int .i64 4]) (by simp only [results, Tryz.results30]; go_simp) rfl ⟨A', c', by rw [HL'.out]; rfl, by rw [HL'.out]; exact HO.out, HB9.out⟩
        · have HS : Hid ((RL, RE) = (l.take k ++ [(⟨s, v, false⟩ : Vr)] ++ l.drop (k), 0)) := hide (by rw [HCV.out, if_neg (by rw [HL.out]; exact h64)])
          clear HCV
          have k64 : (n : Int) < 64 := by omega
          have k65 : ¬ (64 : Int) ≤ (n : Int) := by omega
          obtain ⟨x0, x1, x2⟩ := HX6.out
          have HRL : Hid (RL = l.take k ++ [(⟨s, v, false⟩ : Vr)] ++ l.drop (k)) := hide (congrArg Prod.fst HS.out)
          have HRE : Hid (RE = 0) := hide (congrArg Prod.snd HS.out)
          obtain ⟨Lq, hLq⟩ : ∃ q, RL.length = q := ⟨_, rfl⟩
          have HLq := hide hLq
          clear hLq
          have hsl1 := fun W => slv_to A n c k (k : Int) rfl (by omega) W
          obtain ⟨T, hT⟩ : ∃ T, (if c = k then A else A.map (·.add ((k) * 3))) = T := ⟨_, rfl⟩
          have hsl2 : ∀ W, (Instr.slice 22 (.slice A n c) (some (.int .i64 (k : Int))) none none).run Tryz.prog W = .ok (.slice T (n - (k)) (c - (k))) W := fun W => by rw [← hT]; exact slv_from A n c (k) (k : Int) (by omega) (by omega) W
          have HT := hide hT
          clear hT
          have HLJ : Hid (sumN [⟨A, k, c, l.take k⟩, ⟨some ⟨w6.heap.size, 0, none⟩, 1, 1, [(⟨s, v, false⟩ : Vr)]⟩, ⟨T, n - (k), c - (k), l.drop (k)⟩] = Lq) := hide (by
            rw [← HLq.out, HRL.out]
            have := HL.out
            simp only [sumN, List.map_cons, List.map_nil, List.sum_cons, List.sum_nil, List.length_append, List.length_take, List.length_drop, List.length_singleton]
            omega)
          have HCJ : Hid (catR [⟨A, k, c, l.take k⟩, ⟨some ⟨w6.heap.size, 0, none⟩, 1, 1, [(⟨s, v, false⟩ : Vr)]⟩, ⟨T, n - (k), c - (k), l.drop (k)⟩] = RL) := hide (by rw [HRL.out]; simp [catR])
          have HXX := HX6
          go_wp2_with fail
          clear x0 x1 x2
          refine wp_region_M (fun V => V.cell? ⟨y4, 0, none⟩ = some (.string ⟨s.toArray⟩) ∧ V.cell? ⟨y4, 1, none⟩ = some (.string ⟨v.toArray⟩) ∧ V.cell? ⟨y4, 2, none⟩ = some (.bool false)) 11 rfl HX6.out (fun hHeld => ?_)
          refine wpAnyM_take (i := 0) (v := ?_) rfl rfl (by kernel_rfl) (fun _ _ _ h => h) (Or.inl ⟨by rfl, ?_⟩) (by assumption) ?_
          rotate_left
          · (intro V hV; (try dsimp only at hV); go_simp; with_reducible rfl)
          try simp only [Act.put, List.setIfInBounds_toArray, List.set_cons_zero, List.set_cons_succ]
          refine wpAnyM_take (i := 1) (v := ?_) rfl rfl (by kernel_rfl) (fun _ _ _ h => h) (Or.inl ⟨by rfl, ?_⟩) (by assumption) ?_
          rotate_left
          · (intro V hV; (try dsimp only at hV); go_simp; with_reducible rfl)
          try simp only [Act.put, List.setIfInBounds_toArray, List.set_cons_zero, List.set_cons_succ]
          refine wpAnyM_take (i := 2) (v := ?_) rfl rfl (by kernel_rfl) (fun _ _ _ h => h) (Or.inl ⟨by rfl, ?_⟩) (by assumption) ?_
          rotate_left
          · (intro V hV; (try dsimp only at hV); go_simp; with_reducible rfl)
          try simp only [Act.put, List.setIfInBounds_toArray, List.set_cons_zero, List.set_cons_succ]
          refine wpAnyM_take (i := 3) (v := ?_) rfl rfl (by kernel_rfl) (fun _ _ _ h => h) (Or.inl ⟨by rfl, ?_⟩) (by assumption) ?_
          rotate_left
          · (intro V hV; (try dsimp only at hV); go_simp; with_reducible rfl)
          try simp only [Act.put, List.setIfInBounds_toArray, List.set_cons_zero, List.set_cons_succ]
          refine wpAnyM_take (i := 5) (v := ?_) rfl rfl (by kernel_rfl) (fun _ _ _ h => h) (Or.inl ⟨by rfl, ?_⟩) (by assumption) ?_
          rotate_left
          · (intro V hV; (try dsimp only at hV); go_simp; with_reducible rfl)
          try simp only [Act.put, List.setIfInBounds_toArray, List.set_cons_zero, List.set_cons_succ]
          refine wpAnyM_take (i := 6) (v := ?_) rfl rfl (by kernel_rfl) (fun _ _ _ h => h) (Or.inl ⟨by rfl, ?_⟩) (by assumption) ?_
          rotate_left
          · (intro V hV; (try dsimp only at hV); go_simp; with_reducible rfl)
          try simp only [Act.put, List.setIfInBounds_toArray, List.set_cons_zero, List.set_cons_succ]
          refine wpAnyM_take (i := 7) (v := ?_) rfl rfl (by kernel_rfl) (fun _ _ _ h => h) (Or.inl ⟨by rfl, ?_⟩) (by assumption) ?_
          rotate_left
          · (intro V hV; (try dsimp only at hV); go_simp; with_reducible rfl)
          try simp only [Act.put, List.setIfInBounds_toArray, List.set_cons_zero, List.set_cons_succ]
          refine wpAnyM_step (i := 4) (by kernel_rfl) rfl rfl (fun K hK => ?_)
          go_simp
          refine hK.out _ _ (fun _ => ⟨(World.cell?_alloc_lt _ _ _ hy6).trans HX6.out.1, (World.cell?_alloc_lt _ _ _ hy6).trans HX6.out.2.1, (World.cell?_alloc_lt _ _ _ hy6).trans HX6.out.2.2⟩) ?_
          clear hK K hHeld
          refine wpAnyM_step (i := 8) (by kernel_rfl) rfl rfl (fun K hK => ?_)
          go_simp
          have hy7 : ∀ o : Obj, y4 < (w6.alloc o).heap.size := fun o => by simp; omega
          refine hK.out _ _ (fun _ => ⟨(World.cell?_alloc_lt _ _ _ (hy7 _)).trans ((World.cell?_alloc_lt _ _ _ hy6).trans HX6.out.1), (World.cell?_alloc_lt _ _ _ (hy7 _)).trans ((World.cell?_alloc_lt _ _ _ hy6).trans HX6.out.2.1), (World.cell?_alloc_lt _ _ _ (hy7 _)).trans ((World.cell?_alloc_lt _ _ _ hy6).trans HX6.out.2.2)⟩) ?_
          clear hK K
          refine wpAnyM_step (i := 9) (by kernel_rfl) rfl rfl (fun K hK => ?_)
          go_simp
          have RA : ∀ a b : Obj, RdV ((w6.alloc a).alloc b) A n l := fun a b => (HR6.out.alloc a).alloc b
          have RT : ∀ a b : Obj, RdV ((w6.alloc a).alloc b) T (n - (k)) (l.drop (k)) := fun a b => by
            have := (RA a b).drop (k := k) (by omega) hnc
            rw [HT.out] at this
            exact this
          refine (concat_any [⟨A, k, c, l.take k⟩, ⟨some ⟨w6.heap.size, 0, none⟩, 1, 1, [(⟨s, v, false⟩ : Vr)]⟩, ⟨T, n - (k), c - (k), l.drop (k)⟩] (w6.heap.size + 1) 3 _ (by have := Blk.new (w6.alloc (.cells #[.string ⟨s.toArray⟩, .string ⟨v.toArray⟩, .bool false] 42)) 22 (List.map Rw.v [⟨A, k, c, l.take k⟩, ⟨some ⟨w6.heap.size, 0, none⟩, 1, 1, [(⟨s, v, false⟩ : Vr)]⟩, ⟨T, n - (k), c - (k), l.drop (k)⟩]).toArray; rw [World.size_alloc] at this; exact this) ?ok (Nat.le_refl 3) 3 rfl).mono ?_
          case ok =>
            intro r hr
            simp only [List.mem_cons, List.not_mem_nil, or_false] at hr
            rcases hr with rfl | rfl | rfl
            · exact ⟨(RA _ _).take hkl, by show k ≤ 1000; omega⟩
            · exact ⟨one_var ((Blk.new w6 42 #[.string ⟨s.toArray⟩, .string ⟨v.toArray⟩, .bool false]).alloc _), by show 1 ≤ 1000; omega⟩
            · refine ⟨?_, by show n - (k) ≤ 1000; omega⟩
              exact RT _ _
          rintro e w7 ⟨A', c', rfl, hO, hb⟩
          have hsz := HB6.out.size
          have HB7 := hide (below_more (((HB6.out.alloc hsz _).alloc (by simp; omega) _).drew) (Nat.le_refl _) hb)
          have hy8 : ∀ o u : Obj, y4 < ((w6.alloc o).alloc u).heap.size := fun o u => by simp; omega
          have HX7 : w7.cell? ⟨y4, 0, none⟩ = some (.string ⟨s.toArray⟩) ∧ w7.cell? ⟨y4, 1, none⟩ = some (.string ⟨v.toArray⟩) ∧ w7.cell? ⟨y4, 2, none⟩ = some (.bool false) := ⟨(hb.cell (p := ⟨y4, 0, none⟩) (hy8 _ _)).trans ((World.cell?_alloc_lt _ _ _ (hy7 _)).trans ((World.cell?_alloc_lt _ _ _ hy6).trans HX6.out.1)), (hb.cell (p := ⟨y4, 1, none⟩) (hy8 _ _)).trans ((World.cell?_alloc_lt _ _ _ (hy7 _)).trans ((World.cell?_alloc_lt _ _ _ hy6).trans HX6.out.2.1)), (hb.cell (p := ⟨y4, 2, none⟩) (hy8 _ _)).trans ((World.cell?_alloc_lt _ _ _ (hy7 _)).trans ((World.cell?_alloc_lt _ _ _ hy6).trans HX6.out.2.2))⟩
          rw [HLJ.out] at hO ⊢
          rw [HCJ.out] at hO
          have HO := hide (own_more hO (by show _ ≤ ((w6.alloc _).alloc _).heap.size; simp; omega) : OwV w.heap.size w7 A' _ c' _)
          clear hO hb
          refine hK.out _ _ (fun _ => HX7) ?_
          clear hK K
          refine wpAnyM_step (i := 10) (by kernel_rfl) rfl rfl (fun K hK => ?_)
          go_simp
          refine hK.out _ _ (fun _ => HX7) ?_
          clear hK K
          refine wpAnyM_step (i := 11) (by kernel_rfl) rfl rfl (fun K hK => ?_)
          go_simp
          refine hK.out _ _ (fun h => absurd rfl h) ?_
          refine wpAnyM_done (by kernel_rfl) ?_ _
          clear hK K
          go_wp2_with fail
          refine bodyPost_ret (v := .tuple #[.slice A' Lq c', .int .i64 0]) (by simp only [results, Tryz.results30]; go_simp) rfl ⟨A', c', by rw [HLq.out, HRE.out]; rfl, by rw [HLq.out]; exact HO.out, HB7.out⟩
  | true =>
    obtain ⟨y, hy, hoy, hkn, hyn⟩ := HKF.out rfl
    subst hoy
    obtain ⟨on, ov, oe⟩ := o
    have hy' := hide hy
    clear hy
    have hy := hy'
    clear hy'
    clear HKF HKN
    go_enter Tryz.func30, Tryz.ntmps30
    go_wp2_with fail
    refine XF.out.mono ?_
    rintro e w1 ⟨rfl, hb⟩
    have HB1 := hide hb
    have HR1 := hide (HR.out.below hb)
    have HP1 : Hid (w1.cell? ⟨p, 0, none⟩ = some (.string ⟨v.toArray⟩)) := hide ((hb.cell (p := ⟨p, 0, none⟩) hp).trans HPC.out)
    have hp1 : p < w1.heap.size := Nat.lt_of_lt_of_le hp hb.size
    clear hb
    obtain ⟨g, o0, rfl, hg, q0, q1, q2⟩ := var_cells HR1.out hy.out
    have hia := fun W => var_at g o0 n c k (k : Int) rfl hkn W
    obtain ⟨z, hz⟩ : ∃ z, w1.heap.size = z := ⟨_, rfl⟩
    obtain ⟨W2, hW2⟩ : ∃ W, w1.alloc (.cells #[.string ⟨on.toArray⟩, .string ⟨ov.toArray⟩, .bool oe] 42) = W := ⟨_, rfl⟩
    have HB2 : Hid (Below w.heap.size w W2) := hide (by rw [← hW2]; exact HB1.out.alloc HB1.out.size _)
    have HR2 : Hid (RdV W2 (some ⟨g, o0, none⟩) n l) := hide (by rw [← hW2]; exact (Reads.alloc HR1.out (Nat.le_refl _) _).more (by simp))
    have b2 : Blk W2 z 42 #[.string ⟨on.toArray⟩, .string ⟨ov.toArray⟩, .bool oe] := by rw [← hW2, ← hz]; exact Blk.new w1 42 _
    have hz2 : z < W2.heap.size := by rw [← hW2, ← hz]; simp
    have HP2 : Hid (W2.cell? ⟨p, 0, none⟩ = some (.string ⟨v.toArray⟩)) := hide (by rw [← hW2]; exact (World.cell?_alloc_lt _ _ _ hp1).trans HP1.out)
    have hp2 : p < W2.heap.size := by rw [← hW2]; simp; omega
    have XS2 := hide (XS.out ⟨on, ov, oe⟩ W2 hp2 HP2.out)
    obtain ⟨d0, d1, d2, _, _, _⟩ := Blk.three b2
    have HD := hide (⟨d0, d1, d2⟩ : W2.cell? ⟨z, 0, none⟩ = some (.string ⟨on.toArray⟩) ∧ W2.cell? ⟨z, 1, none⟩ = some (.string ⟨ov.toArray⟩) ∧ W2.cell? ⟨z, 2, none⟩ = some (.bool oe))
    have HW2 := hide hW2
    have HZ := hide hz
    clear hW2 hz b2 d0 d1 d2
    go_wp2_with fail
    try rw [HW2.out]
    try rw [HZ.out]
    refine XS2.out.mono ?_
    rintro e w3 ⟨rfl, hb⟩
    have HB3 := hide (below_more HB2.out (Nat.le_refl _) hb)
    have HR3 := hide (HR2.out.below hb)
    have HD3 := hide (⟨(hb.cell (p := ⟨z, 0, none⟩) hz2).trans HD.out.1, (hb.cell (p := ⟨z, 1, none⟩) hz2).trans HD.out.2.1, (hb.cell (p := ⟨z, 2, none⟩) hz2).trans HD.out.2.2⟩ : w3.cell? ⟨z, 0, none⟩ = some (.string ⟨on.toArray⟩) ∧ w3.cell? ⟨z, 1, none⟩ = some (.string ⟨ov.toArray⟩) ∧ w3.cell? ⟨z, 2, none⟩ = some (.bool oe))
    have hz3 : z < w3.heap.size := Nat.lt_of_lt_of_le hz2 hb.size
    unfold setV Vr.v
    dsimp only
    clear hb XS2 HD HR2 HB2 HW2 HZ
    obtain ⟨y4, hy4⟩ : ∃ z, w3.heap.size = z := ⟨_, rfl⟩
    obtain ⟨W4, hW4⟩ : ∃ W, w3.alloc (.cells #[.string ⟨on.toArray⟩, .string ⟨v.toArray⟩, .bool oe] 42) = W := ⟨_, rfl⟩
    have HB4 : Hid (Below w.heap.size w W4) := hide (by rw [← hW4]; exact HB3.out.alloc HB3.out.size _)
    have HR4 : Hid (RdV W4 (some ⟨g, o0, none⟩) n l) := hide (by rw [← hW4]; exact (Reads.alloc HR3.out (Nat.le_refl _) _).more (by simp))
    have b4 : Blk W4 y4 42 #[.string ⟨on.toArray⟩, .string ⟨v.toArray⟩, .bool oe] := by rw [← hW4, ← hy4]; exact Blk.new w3 42 _
    have hy4' : y4 < W4.heap.size := by rw [← hW4, ← hy4]; simp
    have hz4 : z < W4.heap.size := by rw [← hW4]; simp; omega
    have HD4 := hide (by rw [← hW4]; exact ⟨(World.cell?_alloc_lt _ _ _ hz3).trans HD3.out.1, (World.cell?_alloc_lt _ _ _ hz3).trans HD3.out.2.1, (World.cell?_alloc_lt _ _ _ hz3).trans HD3.out.2.2⟩ : W4.cell? ⟨z, 0, none⟩ = some (.string ⟨on.toArray⟩) ∧ W4.cell? ⟨z, 1, none⟩ = some (.string ⟨ov.toArray⟩) ∧ W4.cell? ⟨z, 2, none⟩ = some (.bool oe))
    obtain ⟨d0, d1, d2, _, _, _⟩ := Blk.three b4
    have HX4 := hide (⟨d0, d1, d2⟩ : W4.cell? ⟨y4, 0, none⟩ = some (.string ⟨on.toArray⟩) ∧ W4.cell? ⟨y4, 1, none⟩ = some (.string ⟨v.toArray⟩) ∧ W4.cell? ⟨y4, 2, none⟩ = some (.bool oe))
    have HW4 := hide hW4
    have HY := hide hy4
    clear hW4 hy4 b4 d0 d1 d2
    have XC4 := hide (XC.out W4 HR4.out)
    go_wp2_with fail
    try rw [HW4.out]
    try rw [HY.out]
    refine XC4.out.mono ?_
    rintro e w5 ⟨rfl, hb⟩
    have HB5 := hide (below_more HB4.out (Nat.le_refl _) hb)
    have HR5 := hide (HR4.out.below hb)
    have hx5 : w5.cell? ⟨y4, 0, none⟩ = some (.string ⟨on.toArray⟩) ∧ w5.cell? ⟨y4, 1, none⟩ = some (.string ⟨v.toArray⟩) ∧ w5.cell? ⟨y4, 2, none⟩ = some (.bool oe) := ⟨(hb.cell (p := ⟨y4, 0, none⟩) hy4').trans HX4.out.1, (hb.cell (p := ⟨y4, 1, none⟩) hy4').trans HX4.out.2.1, (hb.cell (p := ⟨y4, 2, none⟩) hy4').trans HX4.out.2.2⟩
    have hd5 : w5.cell? ⟨z, 0, none⟩ = some (.string ⟨on.toArray⟩) ∧ w5.cell? ⟨z, 1, none⟩ = some (.string ⟨ov.toArray⟩) ∧ w5.cell? ⟨z, 2, none⟩ = some (.bool oe) := ⟨(hb.cell (p := ⟨z, 0, none⟩) hz4).trans HD4.out.1, (hb.cell (p := ⟨z, 1, none⟩) hz4).trans HD4.out.2.1, (hb.cell (p := ⟨z, 2, none⟩) hz4).trans HD4.out.2.2⟩
    have hy5 : y4 < w5.heap.size := Nat.lt_of_lt_of_le hy4' hb.size
    have hz5 : z < w5.heap.size := Nat.lt_of_lt_of_le hz4 hb.size
    clear hb XC4 HX4 HD4 HR4 HB4 HW4 HY HD3 HR3 HB3
    have HX5 := hide hx5
    have HD5 := hide hd5
    have XV5 := hide (fun W => valid_any (⟨on, v, oe⟩ : Vr) hyn W)
    clear hd5
    cases ck with
    | false =>
      obtain ⟨rfl, rfl⟩ : RL = l ∧ RE = 2 := by have := HCE.out; simpa using this
      go_wp2_with fail
      refine (XL.out _ HR5.out).mono ?_
      rintro e w9 ⟨A', c', rfl, hO, hb⟩
      have HO := hide (own_more hO HB5.out.size)
      have HB9 := hide (below_more HB5.out (Nat.le_refl _) hb)
      have HL' := hide HL.out
      clear hO hb
      go_wp2_with fail
      refine bodyPost_ret (v := .tuple #[.slice A' n c', .int .i64 2]) (by simp only [results, Tryz.results30]; go_simp) rfl ⟨A', c', by rw [HL'.out]; rfl, by rw [HL'.out]; exact HO.out, HB9.out⟩
    | true =>
      obtain ⟨x0, x1, x2⟩ := hx5
      go_wp2_with fail
      obtain ⟨q, hq⟩ : ∃ q, validP (⟨on, v, oe⟩ : Vr) = q := ⟨_, rfl⟩
      rw [hq] at XV5
      refine (XV5.out _).mono ?_
      rintro e w6 ⟨rfl, hb⟩
      have HB6 := hide (below_more HB5.out (Nat.le_refl _) hb)
      have HR6 := hide (HR5.out.below hb)
      have HX6 := hide (⟨(hb.cell (p := ⟨y4, 0, none⟩) hy5).trans HX5.out.1, (hb.cell (p := ⟨y4, 1, none⟩) hy5).trans HX5.out.2.1, (hb.cell (p := ⟨y4, 2, none⟩) hy5).trans HX5.out.2.2⟩ : w6.cell? ⟨y4, 0, none⟩ = some (.string ⟨on.toArray⟩) ∧ w6.cell? ⟨y4, 1, none⟩ = some (.string ⟨v.toArray⟩) ∧ w6.cell? ⟨y4, 2, none⟩ = some (.bool oe))
      have HD6 := hide (⟨(hb.cell (p := ⟨z, 0, none⟩) hz5).trans HD5.out.1, (hb.cell (p := ⟨z, 1, none⟩) hz5).trans HD5.out.2.1, (hb.cell (p := ⟨z, 2, none⟩) hz5).trans HD5.out.2.2⟩ : w6.cell? ⟨z, 0, none⟩ = some (.string ⟨on.toArray⟩) ∧ w6.cell? ⟨z, 1, none⟩ = some (.string ⟨ov.toArray⟩) ∧ w6.cell? ⟨z, 2, none⟩ = some (.bool oe))
      have hy6 : y4 < w6.heap.size := Nat.lt_of_lt_of_le hy5 hb.size
      clear hb x0 x1 x2 HX5 HD5 XV5
      have HQ := hide hq
      clear hq
      cases q with
      | false =>
        obtain ⟨rfl, rfl⟩ : RL = l ∧ RE = 2 := by have := HCE.out; rw [if_neg (by rw [show (true && validP ((setV v) ⟨on, ov, oe⟩)) = false from (Bool.true_and _).trans HQ.out]; decide)] at this; simpa using this
        go_wp2_with fail
        refine (XL.out _ HR6.out).mono ?_
        rintro e w9 ⟨A', c', rfl, hO, hb⟩
        have HO := hide (own_more hO HB6.out.size)
        have HB9 := hide (below_more HB6.out (Nat.le_refl _) hb)
        have HL' := hide HL.out
        clear hO hb
        go_wp2_with fail
        refine bodyPost_ret (v := .tuple #[.slice A' n c', .int .i64 2]) (by simp only [results, Tryz.results30]; go_simp) rfl ⟨A', c', by rw [HL'.out]; rfl, by rw [HL'.out]; exact HO.out, HB9.out⟩
      | true =>
        have HCV : Hid ((RL, RE) = (l.take k ++ [(⟨on, v, oe⟩ : Vr)] ++ l.drop (k + 1), 0)) := hide (by
          have e := (Bool.true_and _).trans HQ.out
          rw [HCE.out]
          unfold setV at *
          dsimp only at *
          simp only [e, if_true])
        clear HCE HQ
        by_cases heq : v = ov
        · have HS : Hid ((RL, RE) = (l, 0)) := hide (by rw [HCV.out, split_same (by rw [hy.out]; rw [heq])])
          clear HCV
          obtain ⟨x0, x1, x2⟩ := HX6.out
          obtain ⟨d0, d1, d2⟩ := HD6.out
          subst heq
          obtain ⟨rfl, rfl⟩ : RL = l ∧ RE = 0 := by have := HS.out; simpa using this
          go_wp2_with fail
          refine (XL.out _ HR6.out).mono ?_
          rintro e w9 ⟨A', c', rfl, hO, hb⟩
          have HO := hide (own_more hO HB6.out.size)
          have HB9 := hide (below_more HB6.out (Nat.le_refl _) hb)
          have HL' := hide HL.out
          clear hO hb
          go_wp2_with fail
          refine bodyPost_ret (v := .tuple #[.slice A' n c', .int .i64 0]) (by simp only [results, Tryz.results30]; go_simp) rfl ⟨A', c', by rw [HL'.out]; rfl, by rw [HL'.out]; exact HO.out, HB9.out⟩
        · have HS : Hid ((RL, RE) = (l.take k ++ [(⟨on, v, oe⟩ : Vr)] ++ l.drop (k + 1), 0)) := HCV
          clear HCV
          obtain ⟨x0, x1, x2⟩ := HX6.out
          obtain ⟨d0, d1, d2⟩ := HD6.out
          have hne : (v == ov) = false := beq_eq_false_iff_ne.2 heq
          have HRL : Hid (RL = l.take k ++ [(⟨on, v, oe⟩ : Vr)] ++ l.drop (k + 1)) := hide (congrArg Prod.fst HS.out)
          have HRE : Hid (RE = 0) := hide (congrArg Prod.snd HS.out)
          obtain ⟨Lq, hLq⟩ : ∃ q, RL.length = q := ⟨_, rfl⟩
          have HLq := hide hLq
          clear hLq
          have hsl1 := fun W => slv_to (some (⟨g, o0, none⟩ : Addr)) n c k (k : Int) rfl (by omega) W
          obtain ⟨T, hT⟩ : ∃ T, (if c = k + 1 then (some (⟨g, o0, none⟩ : Addr)) else (some (⟨g, o0, none⟩ : Addr)).map (·.add ((k + 1) * 3))) = T := ⟨_, rfl⟩
          have hsl2 : ∀ W, (Instr.slice 22 (.slice (some (⟨g, o0, none⟩ : Addr)) n c) (some (.int .i64 ((k : Int) + 1))) none none).run Tryz.prog W = .ok (.slice T (n - (k + 1)) (c - (k + 1))) W := fun W => by rw [← hT]; exact slv_from (some (⟨g, o0, none⟩ : Addr)) n c (k + 1) ((k : Int) + 1) (by omega) (by omega) W
          have HT := hide hT
          clear hT
          have kw : IntKind.i64.wrap ((k : Int) + 1) = (k : Int) + 1 := by simp [IntKind.wrap, IntKind.bits, IntKind.signed]; omega
          have HLJ : Hid (sumN [⟨(some (⟨g, o0, none⟩ : Addr)), k, c, l.take k⟩, ⟨some ⟨w6.heap.size, 0, none⟩, 1, 1, [(⟨on, v, oe⟩ : Vr)]⟩, ⟨T, n - (k + 1), c - (k + 1), l.drop (k + 1)⟩] = Lq) := hide (by
            rw [← HLq.out, HRL.out]
            have := HL.out
            simp only [sumN, List.map_cons, List.map_nil, List.sum_cons, List.sum_nil, List.length_append, List.length_take, List.length_drop, List.length_singleton]
            omega)
          have HCJ : Hid (catR [⟨(some (⟨g, o0, none⟩ : Addr)), k, c, l.take k⟩, ⟨some ⟨w6.heap.size, 0, none⟩, 1, 1, [(⟨on, v, oe⟩ : Vr)]⟩, ⟨T, n - (k + 1), c - (k + 1), l.drop (k + 1)⟩] = RL) := hide (by rw [HRL.out]; simp [catR])
          have HXX := HX6
          go_wp2_with fail
          clear d0 d1 d2 x0 x1 x2
          refine wp_region_M (fun V => V.cell? ⟨y4, 0, none⟩ = some (.string ⟨on.toArray⟩) ∧ V.cell? ⟨y4, 1, none⟩ = some (.string ⟨v.toArray⟩) ∧ V.cell? ⟨y4, 2, none⟩ = some (.bool oe)) 12 rfl HX6.out (fun hHeld => ?_)
          refine wpAnyM_take (i := 0) (v := ?_) rfl rfl (by kernel_rfl) (fun _ _ _ h => h) (Or.inl ⟨by rfl, ?_⟩) (by assumption) ?_
          rotate_left
          · (intro V hV; (try dsimp only at hV); go_simp; with_reducible rfl)
          try simp only [Act.put, List.setIfInBounds_toArray, List.set_cons_zero, List.set_cons_succ]
          refine wpAnyM_take (i := 1) (v := ?_) rfl rfl (by kernel_rfl) (fun _ _ _ h => h) (Or.inl ⟨by rfl, ?_⟩) (by assumption) ?_
          rotate_left
          · (intro V hV; (try dsimp only at hV); go_simp; with_reducible rfl)
          try simp only [Act.put, List.setIfInBounds_toArray, List.set_cons_zero, List.set_cons_succ]
          refine wpAnyM_take (i := 2) (v := ?_) rfl rfl (by kernel_rfl) (fun _ _ _ h => h) (Or.inl ⟨by rfl, ?_⟩) (by assumption) ?_
          rotate_left
          · (intro V hV; (try dsimp only at hV); go_simp; with_reducible rfl)
          try simp only [Act.put, List.setIfInBounds_toArray, List.set_cons_zero, List.set_cons_succ]
          refine wpAnyM_take (i := 3) (v := ?_) rfl rfl (by kernel_rfl) (fun _ _ _ h => h) (Or.inl ⟨by rfl, ?_⟩) (by assumption) ?_
          rotate_left
          · (intro V hV; (try dsimp only at hV); go_simp; with_reducible rfl)
          try simp only [Act.put, List.setIfInBounds_toArray, List.set_cons_zero, List.set_cons_succ]
          refine wpAnyM_take (i := 5) (v := ?_) rfl rfl (by kernel_rfl) (fun _ _ _ h => h) (Or.inl ⟨by rfl, ?_⟩) (by assumption) ?_
          rotate_left
          · (intro V hV; (try dsimp only at hV); go_simp; with_reducible rfl)
          try simp only [Act.put, List.setIfInBounds_toArray, List.set_cons_zero, List.set_cons_succ]
          refine wpAnyM_take (i := 6) (v := ?_) rfl rfl (by kernel_rfl) (fun _ _ _ h => h) (Or.inl ⟨by rfl, ?_⟩) (by assumption) ?_
          rotate_left
          · (intro V hV; (try dsimp only at hV); go_simp; with_reducible rfl)
          try simp only [Act.put, List.setIfInBounds_toArray, List.set_cons_zero, List.set_cons_succ]
          refine wpAnyM_take (i := 7) (v := ?_) rfl rfl (by kernel_rfl) (fun _ _ _ h => h) (Or.inl ⟨by rfl, ?_⟩) (by assumption) ?_
          rotate_left
          · (intro V hV; (try dsimp only at hV); go_simp; with_reducible rfl)
          try simp only [Act.put, List.setIfInBounds_toArray, List.set_cons_zero, List.set_cons_succ]
          refine wpAnyM_take (i := 8) (v := ?_) rfl rfl (by kernel_rfl) (fun _ _ _ h => h) (Or.inl ⟨by rfl, ?_⟩) (by assumption) ?_
          rotate_left
          · (intro V hV; (try dsimp only at hV); go_simp; with_reducible rfl)
          try simp only [Act.put, List.setIfInBounds_toArray, List.set_cons_zero, List.set_cons_succ]
          refine wpAnyM_step (i := 4) (by kernel_rfl) rfl rfl (fun K hK => ?_)
          go_simp
          refine hK.out _ _ (fun _ => ⟨(World.cell?_alloc_lt _ _ _ hy6).trans HX6.out.1, (World.cell?_alloc_lt _ _ _ hy6).trans HX6.out.2.1, (World.cell?_alloc_lt _ _ _ hy6).trans HX6.out.2.2⟩) ?_
          clear hK K hHeld
          refine wpAnyM_step (i := 9) (by kernel_rfl) rfl rfl (fun K hK => ?_)
          go_simp
          have hy7 : ∀ o : Obj, y4 < (w6.alloc o).heap.size := fun o => by simp; omega
          refine hK.out _ _ (fun _ => ⟨(World.cell?_alloc_lt _ _ _ (hy7 _)).trans ((World.cell?_alloc_lt _ _ _ hy6).trans HX6.out.1), (World.cell?_alloc_lt _ _ _ (hy7 _)).trans ((World.cell?_alloc_lt _ _ _ hy6).trans HX6.out.2.1), (World.cell?_alloc_lt _ _ _ (hy7 _)).trans ((World.cell?_alloc_lt _ _ _ hy6).trans HX6.out.2.2)⟩) ?_
          clear hK K
          refine wpAnyM_step (i := 10) (by kernel_rfl) rfl rfl (fun K hK => ?_)
          go_simp
          have RA : ∀ a b : Obj, RdV ((w6.alloc a).alloc b) (some (⟨g, o0, none⟩ : Addr)) n l := fun a b => (HR6.out.alloc a).alloc b
          have RT : ∀ a b : Obj, RdV ((w6.alloc a).alloc b) T (n - (k + 1)) (l.drop (k + 1)) := fun a b => by
            have := (RA a b).drop (k := k + 1) (by omega) hnc
            rw [HT.out] at this
            exact this
          refine (concat_any [⟨(some (⟨g, o0, none⟩ : Addr)), k, c, l.take k⟩, ⟨some ⟨w6.heap.size, 0, none⟩, 1, 1, [(⟨on, v, oe⟩ : Vr)]⟩, ⟨T, n - (k + 1), c - (k + 1), l.drop (k + 1)⟩] (w6.heap.size + 1) 3 _ (by have := Blk.new (w6.alloc (.cells #[.string ⟨on.toArray⟩, .string ⟨v.toArray⟩, .bool oe] 42)) 22 (List.map Rw.v [⟨(some (⟨g, o0, none⟩ : Addr)), k, c, l.take k⟩, ⟨some ⟨w6.heap.size, 0, none⟩, 1, 1, [(⟨on, v, oe⟩ : Vr)]⟩, ⟨T, n - (k + 1), c - (k + 1), l.drop (k + 1)⟩]).toArray; rw [World.size_alloc] at this; exact this) ?ok (Nat.le_refl 3) 3 rfl).mono ?_
          case ok =>
            intro r hr
            simp only [List.mem_cons, List.not_mem_nil, or_false] at hr
            rcases hr with rfl | rfl | rfl
            · exact ⟨(RA _ _).take hkl, by show k ≤ 1000; omega⟩
            · exact ⟨one_var ((Blk.new w6 42 #[.string ⟨on.toArray⟩, .string ⟨v.toArray⟩, .bool oe]).alloc _), by show 1 ≤ 1000; omega⟩
            · refine ⟨?_, by show n - (k + 1) ≤ 1000; omega⟩
              exact RT _ _
          rintro e w7 ⟨A', c', rfl, hO, hb⟩
          have hsz := HB6.out.size
          have HB7 := hide (below_more (((HB6.out.alloc hsz _).alloc (by simp; omega) _).drew) (Nat.le_refl _) hb)
          have hy8 : ∀ o u : Obj, y4 < ((w6.alloc o).alloc u).heap.size := fun o u => by simp; omega
          have HX7 : w7.cell? ⟨y4, 0, none⟩ = some (.string ⟨on.toArray⟩) ∧ w7.cell? ⟨y4, 1, none⟩ = some (.string ⟨v.toArray⟩) ∧ w7.cell? ⟨y4, 2, none⟩ = some (.bool oe) := ⟨(hb.cell (p := ⟨y4, 0, none⟩) (hy8 _ _)).trans ((World.cell?_alloc_lt _ _ _ (hy7 _)).trans ((World.cell?_alloc_lt _ _ _ hy6).trans HX6.out.1)), (hb.cell (p := ⟨y4, 1, none⟩) (hy8 _ _)).trans ((World.cell?_alloc_lt _ _ _ (hy7 _)).trans ((World.cell?_alloc_lt _ _ _ hy6).trans HX6.out.2.1)), (hb.cell (p := ⟨y4, 2, none⟩) (hy8 _ _)).trans ((World.cell?_alloc_lt _ _ _ (hy7 _)).trans ((World.cell?_alloc_lt _ _ _ hy6).trans HX6.out.2.2))⟩
          rw [HLJ.out] at hO ⊢
          rw [HCJ.out] at hO
          have HO := hide (own_more hO (by show _ ≤ ((w6.alloc _).alloc _).heap.size; simp; omega) : OwV w.heap.size w7 A' _ c' _)
          clear hO hb
          refine hK.out _ _ (fun _ => HX7) ?_
          clear hK K
          refine wpAnyM_step (i := 11) (by kernel_rfl) rfl rfl (fun K hK => ?_)
          go_simp
          refine hK.out _ _ (fun _ => HX7) ?_
          clear hK K
          refine wpAnyM_step (i := 12) (by kernel_rfl) rfl rfl (fun K hK => ?_)
          go_simp
          refine hK.out _ _ (fun h => absurd rfl h) ?_
          refine wpAnyM_done (by kernel_rfl) ?_ _
          clear hK K
          go_wp2_with fail
          refine bodyPost_ret (v := .tuple #[.slice A' Lq c', .int .i64 0]) (by simp only [results, Tryz.results30]; go_simp) rfl ⟨A', c', by rw [HLq.out, HRE.out]; rfl, by rw [HLq.out]; exact HO.out, HB7.out⟩
set_option maxRecDepth 100000 in
set_option maxHeartbeats 8000000 in
theorem change_exp (l : List Vr) (hs : ∀ x ∈ l, x.name.length ≤ 100000) (s : LB) (hsn : s.length ≤ 100000) (A : Option Addr) (n c : Nat) (w : World) (hR : RdV w A n l) (hn : n ≤ 1000) (hnc : n ≤ c) :
    Calls Tryz.prog 30 #[.slice A n c, .string ⟨s.toArray⟩, .func (.func 35) #[] #[]] w fun e w' => ∃ A' c', e = .returned (.tuple #[.slice A' (chgP l s expV).1.length c', .int .i64 ((chgP l s expV).2 : Int)]) ∧ OwV w.heap.size w' A' (chgP l s expV).1.length c' (chgP l s expV).1 ∧ Below w.heap.size w w' := by
  have hl := hR.len
  obtain ⟨RL, hRL⟩ : ∃ R, (chgP l s expV).1 = R := ⟨_, rfl⟩
  obtain ⟨RE, hRE⟩ : ∃ R, (chgP l s expV).2 = R := ⟨_, rfl⟩
  rw [hRL, hRE]
  have HCH : Hid ((RL, RE) = chgP l s expV) := hide (by rw [← hRL, ← hRE])
  obtain ⟨o, ho⟩ : ∃ o, oldP l s = o := ⟨_, rfl⟩
  obtain ⟨k, hk⟩ : ∃ k, findP l s = k := ⟨_, rfl⟩
  obtain ⟨fo, hfo⟩ : ∃ fo, foundP l s = fo := ⟨_, rfl⟩
  obtain ⟨ck, hck⟩ : ∃ ck, checkP l = ck := ⟨_, rfl⟩
  have hkl : k ≤ n := by rw [← hk, ← hl]; exact (bsF_le l s _ 0 _ (Nat.zero_le _)).2
  have HKF : Hid (fo = true → ∃ y, l[k]? = some y ∧ o = y ∧ k < n ∧ y.name.length ≤ 100000) := hide (fun h => by
    rw [← hfo] at h
    have h1 := found_lt h
    rw [hk] at h1
    refine ⟨l[k], List.getElem?_eq_getElem h1, ?_, by omega, hs _ (List.getElem_mem h1)⟩
    rw [← ho, oldP, if_pos h, hk, List.getElem?_eq_getElem h1]; rfl)
  have HKN : Hid (fo = false → o = ⟨s, [], false⟩) := hide (fun h => by rw [← ho, oldP, if_neg (by rw [hfo, h]; decide)])
  have XF := hide (find_any l s A n c w hR hn)
  have XC := hide (fun W (h : RdV W A n l) => check_any l hs A n c W h hn)
  have XL := hide (fun W (h : RdV W A n l) => list_any l A n c W h hn)
  rw [hk, hfo] at XF
  rw [hck] at XC
  have HCE : Hid ((RL, RE) = if (ck && validP (expV o)) = true then (if fo = true then (l.take k ++ [expV o] ++ l.drop (k + 1), 0) else if 64 ≤ l.length then (l, 4) else (l.take k ++ [expV o] ++ l.drop k, 0)) else (l, 2)) := hide (by rw [HCH.out]; unfold chgP; rw [hk, hfo, hck, ho])
  have HR := hide hR
  have HL := hide hl
  clear hR hl hs hRL hRE HCH ho hk hfo hck
  have XS := hide (fun (x : Vr) (W : World) => exp1_any x W)
  cases fo with
  | false =>
    have HO := HKN.out rfl
    subst HO
    clear HKF HKN
    go_enter Tryz.func30, Tryz.ntmps30
    go_wp2_with fail
    refine XF.out.mono ?_
    rintro e w1 ⟨rfl, hb⟩
    have HB1 := hide hb
    have HR1 := hide (HR.out.below hb)
    clear hb
    obtain ⟨z, hz⟩ : ∃ z, w1.heap.size = z := ⟨_, rfl⟩
    obtain ⟨W2, hW2⟩ : ∃ W, w1.alloc (.cells #[.string ⟨s.toArray⟩, .string ⟨#[]⟩, .bool false] 42) = W := ⟨_, rfl⟩
    have HB2 : Hid (Below w.heap.size w W2) := hide (by rw [← hW2]; exact HB1.out.alloc HB1.out.size _)
    have HR2 : Hid (RdV W2 A n l) := hide (by rw [← hW2]; exact (Reads.alloc HR1.out (Nat.le_refl _) _).more (by simp))
    have b2 : Blk W2 z 42 #[.string ⟨s.toArray⟩, .string ⟨#[]⟩, .bool false] := by rw [← hW2, ← hz]; exact Blk.new w1 42 _
    have hz2 : z < W2.heap.size := by rw [← hW2, ← hz]; simp
    have XS2 := hide (XS.out ⟨s, [], false⟩ W2)
    obtain ⟨d0, d1, d2, _, _, _⟩ := Blk.three b2
    have HD := hide (⟨d0, d1, d2⟩ : W2.cell? ⟨z, 0, none⟩ = some (.string ⟨s.toArray⟩) ∧ W2.cell? ⟨z, 1, none⟩ = some (.string ⟨#[]⟩) ∧ W2.cell? ⟨z, 2, none⟩ = some (.bool false))
    have HW2 := hide hW2
    have HZ := hide hz
    clear hW2 hz b2 d0 d1 d2
    go_wp2_with fail
    try rw [HW2.out]
    try rw [HZ.out]
    refine XS2.out.mono ?_
    rintro e w3 ⟨rfl, hb⟩
    have HB3 := hide (below_more HB2.out (Nat.le_refl _) hb)
    have HR3 := hide (HR2.out.below hb)
    have HD3 := hide (⟨(hb.cell (p := ⟨z, 0, none⟩) hz2).trans HD.out.1, (hb.cell (p := ⟨z, 1, none⟩) hz2).trans HD.out.2.1, (hb.cell (p := ⟨z, 2, none⟩) hz2).trans HD.out.2.2⟩ : w3.cell? ⟨z, 0, none⟩ = some (.string ⟨s.toArray⟩) ∧ w3.cell? ⟨z, 1, none⟩ = some (.string ⟨#[]⟩) ∧ w3.cell? ⟨z, 2, none⟩ = some (.bool false))
    have hz3 : z < w3.heap.size := Nat.lt_of_lt_of_le hz2 hb.size
    unfold expV Vr.v
    dsimp only
    clear hb XS2 HD HR2 HB2 HW2 HZ
    obtain ⟨y4, hy4⟩ : ∃ z, w3.heap.size = z := ⟨_, rfl⟩
    obtain ⟨W4, hW4⟩ : ∃ W, w3.alloc (.cells #[.string ⟨s.toArray⟩, .string ⟨#[]⟩, .bool true] 42) = W := ⟨_, rfl⟩
    have HB4 : Hid (Below w.heap.size w W4) := hide (by rw [← hW4]; exact HB3.out.alloc HB3.out.size _)
    have HR4 : Hid (RdV W4 A n l) := hide (by rw [← hW4]; exact (Reads.alloc HR3.out (Nat.le_refl _) _).more (by simp))
    have b4 : Blk W4 y4 42 #[.string ⟨s.toArray⟩, .string ⟨#[]⟩, .bool true] := by rw [← hW4, ← hy4]; exact Blk.new w3 42 _
    have hy4' : y4 < W4.heap.size := by rw [← hW4, ← hy4]; simp
    have hz4 : z < W4.heap.size := by rw [← hW4]; simp; omega
    have HD4 := hide (by rw [← hW4]; exact ⟨(World.cell?_alloc_lt _ _ _ hz3).trans HD3.out.1, (World.cell?_alloc_lt _ _ _ hz3).trans HD3.out.2.1, (World.cell?_alloc_lt _ _ _ hz3).trans HD3.out.2.2⟩ : W4.cell? ⟨z, 0, none⟩ = some (.string ⟨s.toArray⟩) ∧ W4.cell? ⟨z, 1, none⟩ = some (.string ⟨#[]⟩) ∧ W4.cell? ⟨z, 2, none⟩ = some (.bool false))
    obtain ⟨d0, d1, d2, _, _, _⟩ := Blk.three b4
    have HX4 := hide (⟨d0, d1, d2⟩ : W4.cell? ⟨y4, 0, none⟩ = some (.string ⟨s.toArray⟩) ∧ W4.cell? ⟨y4, 1, none⟩ = some (.string ⟨#[]⟩) ∧ W4.cell? ⟨y4, 2, none⟩ = some (.bool true))
    have HW4 := hide hW4
    have HY := hide hy4
    clear hW4 hy4 b4 d0 d1 d2
    have XC4 := hide (XC.out W4 HR4.out)
    go_wp2_with fail
    try rw [HW4.out]
    try rw [HY.out]
    refine XC4.out.mono ?_
    rintro e w5 ⟨rfl, hb⟩
    have HB5 := hide (below_more HB4.out (Nat.le_refl _) hb)
    have HR5 := hide (HR4.out.below hb)
    have hx5 : w5.cell? ⟨y4, 0, none⟩ = some (.string ⟨s.toArray⟩) ∧ w5.cell? ⟨y4, 1, none⟩ = some (.string ⟨#[]⟩) ∧ w5.cell? ⟨y4, 2, none⟩ = some (.bool true) := ⟨(hb.cell (p := ⟨y4, 0, none⟩) hy4').trans HX4.out.1, (hb.cell (p := ⟨y4, 1, none⟩) hy4').trans HX4.out.2.1, (hb.cell (p := ⟨y4, 2, none⟩) hy4').trans HX4.out.2.2⟩
    have hd5 : w5.cell? ⟨z, 0, none⟩ = some (.string ⟨s.toArray⟩) ∧ w5.cell? ⟨z, 1, none⟩ = some (.string ⟨#[]⟩) ∧ w5.cell? ⟨z, 2, none⟩ = some (.bool false) := ⟨(hb.cell (p := ⟨z, 0, none⟩) hz4).trans HD4.out.1, (hb.cell (p := ⟨z, 1, none⟩) hz4).trans HD4.out.2.1, (hb.cell (p := ⟨z, 2, none⟩) hz4).trans HD4.out.2.2⟩
    have hy5 : y4 < w5.heap.size := Nat.lt_of_lt_of_le hy4' hb.size
    have hz5 : z < w5.heap.size := Nat.lt_of_lt_of_le hz4 hb.size
    clear hb XC4 HX4 HD4 HR4 HB4 HW4 HY HD3 HR3 HB3
    have HX5 := hide hx5
    have HD5 := hide hd5
    have XV5 := hide (fun W => valid_any (⟨s, [], true⟩ : Vr) hsn W)
    clear hd5
    cases ck with
    | false =>
      obtain ⟨rfl, rfl⟩ : RL = l ∧ RE = 2 := by have := HCE.out; simpa using this
      go_wp2_with fail
      refine (XL.out _ HR5.out).mono ?_
      rintro e w9 ⟨A', c', rfl, hO, hb⟩
      have HO := hide (own_more hO HB5.out.size)
      have HB9 := hide (below_more HB5.out (Nat.le_refl _) hb)
      have HL' := hide HL.out
      clear hO hb
      go_wp2_with fail
      refine bodyPost_ret (v := .tuple #[.slice A' n c', .int .i64 2]) (by simp only [results, Tryz.results30]; go_simp) rfl ⟨A', c', by rw [HL'.out]; rfl, by rw [HL'.out]; exact HO.out, HB9.out⟩
    | true =>
      obtain ⟨x0, x1, x2⟩ := hx5
      go_wp2_with fail
      obtain ⟨q, hq⟩ : ∃ q, validP (⟨s, [], true⟩ : Vr) = q := ⟨_, rfl⟩
      rw [hq] at XV5
      refine (XV5.out _).mono ?_
      rintro e w6 ⟨rfl, hb⟩
      have HB6 := hide (below_more HB5.out (Nat.le_refl _) hb)
      have HR6 := hide (HR5.out.below hb)
      have HX6 := hide (⟨(hb.cell (p := ⟨y4, 0, none⟩) hy5).trans HX5.out.1, (hb.cell (p := ⟨y4, 1, none⟩) hy5).trans HX5.out.2.1, (hb.cell (p := ⟨y4, 2, none⟩) hy5).trans HX5.out.2.2⟩ : w6.cell? ⟨y4, 0, none⟩ = some (.string ⟨s.toArray⟩) ∧ w6.cell? ⟨y4, 1, none⟩ = some (.string ⟨#[]⟩) ∧ w6.cell? ⟨y4, 2, none⟩ = some (.bool true))
      have HD6 := hide (⟨(hb.cell (p := ⟨z, 0, none⟩) hz5).trans HD5.out.1, (hb.cell (p := ⟨z, 1, none⟩) hz5).trans HD5.out.2.1, (hb.cell (p := ⟨z, 2, none⟩) hz5).trans HD5.out.2.2⟩ : w6.cell? ⟨z, 0, none⟩ = some (.string ⟨s.toArray⟩) ∧ w6.cell? ⟨z, 1, none⟩ = some (.string ⟨#[]⟩) ∧ w6.cell? ⟨z, 2, none⟩ = some (.bool false))
      have hy6 : y4 < w6.heap.size := Nat.lt_of_lt_of_le hy5 hb.size
      clear hb x0 x1 x2 HX5 HD5 XV5
      have HQ := hide hq
      clear hq
      cases q with
      | false =>
        obtain ⟨rfl, rfl⟩ : RL = l ∧ RE = 2 := by have := HCE.out; rw [if_neg (by rw [show (true && validP (expV ⟨s, [], false⟩)) = false from (Bool.true_and _).trans HQ.out]; decide)] at this; simpa using this
        go_wp2_with fail
        refine (XL.out _ HR6.out).mono ?_
        rintro e w9 ⟨A', c', rfl, hO, hb⟩
        have HO := hide (own_more hO HB6.out.size)
        have HB9 := hide (below_more HB6.out (Nat.le_refl _) hb)
        have HL' := hide HL.out
        clear hO hb
        go_wp2_with fail
        refine bodyPost_ret (v := .tuple #[.slice A' n c', .int .i64 2]) (by simp only [results, Tryz.results30]; go_simp) rfl ⟨A', c', by rw [HL'.out]; rfl, by rw [HL'.out]; exact HO.out, HB9.out⟩
      | true =>
        have HCV : Hid ((RL, RE) = if 64 ≤ l.length then (l, 4) else (l.take k ++ [(⟨s, [], true⟩ : Vr)] ++ l.drop k, 0)) := hide (by
          have e := (Bool.true_and _).trans HQ.out
          rw [HCE.out]
          unfold expV at *
          dsimp only at *
          simp only [e, if_true, if_false, Bool.false_eq_true])
        clear HCE HQ
        by_cases h64 : 64 ≤ n
        · have HS : Hid ((RL, RE) = (l, 4)) := hide (by rw [HCV.out, if_pos (by rw [HL.out]; exact h64)])
          clear HCV
          have k64 : ¬ (n : Int) < 64 := by omega
          have k65 : (64 : Int) ≤ (n : Int) := by omega
          obtain ⟨rfl, rfl⟩ : RL = l ∧ RE = 4 := by have := HS.out; simpa using this
          go_wp2_with fail
          refine (XL.out _ HR6.out).mono ?_
          rintro e w9 ⟨A', c', rfl, hO, hb⟩
          have HO := hide (own_more hO HB6.out.size)
          have HB9 := hide (below_more HB6.out (Nat.le_refl _) hb)
          have HL' := hide HL.out
          clear hO hb
          go_wp2_with fail
          refine bodyPost_ret (v := .tuple #[.slice A' n c', .int .i64 4]) (by simp only [results, Tryz.results30]; go_simp) rfl ⟨A', c', by rw [HL'.out]; rfl, by rw [HL'.out]; exact HO.out, HB9.out⟩
        · have HS : Hid ((RL, RE) = (l.take k ++ [(⟨s, [], true⟩ : Vr)] ++ l.drop (k), 0)) := hide (by rw [HCV.out, if_neg (by rw [HL.out]; exact h64)])
          clear HCV
          have k64 : (n : Int) < 64 := by omega
          have k65 : ¬ (64 : Int) ≤ (n : Int) := by omega
          obtain ⟨x0, x1, x2⟩ := HX6.out
          have HRL : Hid (RL = l.take k ++ [(⟨s, [], true⟩ : Vr)] ++ l.drop (k)) := hide (congrArg Prod.fst HS.out)
          have HRE : Hid (RE = 0) := hide (congrArg Prod.snd HS.out)
          obtain ⟨Lq, hLq⟩ : ∃ q, RL.length = q := ⟨_, rfl⟩
          have HLq := hide hLq
          clear hLq
          have hsl1 := fun W => slv_to A n c k (k : Int) rfl (by omega) W
          obtain ⟨T, hT⟩ : ∃ T, (if c = k then A else A.map (·.add ((k) * 3))) = T := ⟨_, rfl⟩
          have hsl2 : ∀ W, (Instr.slice 22 (.slice A n c) (some (.int .i64 (k : Int))) none none).run Tryz.prog W = .ok (.slice T (n - (k)) (c - (k))) W := fun W => by rw [← hT]; exact slv_from A n c (k) (k : Int) (by omega) (by omega) W
          have HT := hide hT
          clear hT
          have HLJ : Hid (sumN [⟨A, k, c, l.take k⟩, ⟨some ⟨w6.heap.size, 0, none⟩, 1, 1, [(⟨s, [], true⟩ : Vr)]⟩, ⟨T, n - (k), c - (k), l.drop (k)⟩] = Lq) := hide (by
            rw [← HLq.out, HRL.out]
            have := HL.out
            simp only [sumN, List.map_cons, List.map_nil, List.sum_cons, List.sum_nil, List.length_append, List.length_take, List.length_drop, List.length_singleton]
            omega)
          have HCJ : Hid (catR [⟨A, k, c, l.take k⟩, ⟨some ⟨w6.heap.size, 0, none⟩, 1, 1, [(⟨s, [], true⟩ : Vr)]⟩, ⟨T, n - (k), c - (k), l.drop (k)⟩] = RL) := hide (by rw [HRL.out]; simp [catR])
          have HXX := HX6
          go_wp2_with fail
          clear x0 x1 x2
          refine wp_region_M (fun V => V.cell? ⟨y4, 0, none⟩ = some (.string ⟨s.toArray⟩) ∧ V.cell? ⟨y4, 1, none⟩ = some (.string ⟨#[]⟩) ∧ V.cell? ⟨y4, 2, none⟩ = some (.bool true)) 11 rfl HX6.out (fun hHeld => ?_)
          refine wpAnyM_take (i := 0) (v := ?_) rfl rfl (by kernel_rfl) (fun _ _ _ h => h) (Or.inl ⟨by rfl, ?_⟩) (by assumption) ?_
          rotate_left
          · (intro V hV; (try dsimp only at hV); go_simp; with_reducible rfl)
          try simp only [Act.put, List.setIfInBounds_toArray, List.set_cons_zero, List.set_cons_succ]
          refine wpAnyM_take (i := 1) (v := ?_) rfl rfl (by kernel_rfl) (fun _ _ _ h => h) (Or.inl ⟨by rfl, ?_⟩) (by assumption) ?_
          rotate_left
          · (intro V hV; (try dsimp only at hV); go_simp; with_reducible rfl)
          try simp only [Act.put, List.setIfInBounds_toArray, List.set_cons_zero, List.set_cons_succ]
          refine wpAnyM_take (i := 2) (v := ?_) rfl rfl (by kernel_rfl) (fun _ _ _ h => h) (Or.inl ⟨by rfl, ?_⟩) (by assumption) ?_
          rotate_left
          · (intro V hV; (try dsimp only at hV); go_simp; with_reducible rfl)
          try simp only [Act.put, List.setIfInBounds_toArray, List.set_cons_zero, List.set_cons_succ]
          refine wpAnyM_take (i := 3) (v := ?_) rfl rfl (by kernel_rfl) (fun _ _ _ h => h) (Or.inl ⟨by rfl, ?_⟩) (by assumption) ?_
          rotate_left
          · (intro V hV; (try dsimp only at hV); go_simp; with_reducible rfl)
          try simp only [Act.put, List.setIfInBounds_toArray, List.set_cons_zero, List.set_cons_succ]
          refine wpAnyM_take (i := 5) (v := ?_) rfl rfl (by kernel_rfl) (fun _ _ _ h => h) (Or.inl ⟨by rfl, ?_⟩) (by assumption) ?_
          rotate_left
          · (intro V hV; (try dsimp only at hV); go_simp; with_reducible rfl)
          try simp only [Act.put, List.setIfInBounds_toArray, List.set_cons_zero, List.set_cons_succ]
          refine wpAnyM_take (i := 6) (v := ?_) rfl rfl (by kernel_rfl) (fun _ _ _ h => h) (Or.inl ⟨by rfl, ?_⟩) (by assumption) ?_
          rotate_left
          · (intro V hV; (try dsimp only at hV); go_simp; with_reducible rfl)
          try simp only [Act.put, List.setIfInBounds_toArray, List.set_cons_zero, List.set_cons_succ]
          refine wpAnyM_take (i := 7) (v := ?_) rfl rfl (by kernel_rfl) (fun _ _ _ h => h) (Or.inl ⟨by rfl, ?_⟩) (by assumption) ?_
          rotate_left
          · (intro V hV; (try dsimp only at hV); go_simp; with_reducible rfl)
          try simp only [Act.put, List.setIfInBounds_toArray, List.set_cons_zero, List.set_cons_succ]
          refine wpAnyM_step (i := 4) (by kernel_rfl) rfl rfl (fun K hK => ?_)
          go_simp
          refine hK.out _ _ (fun _ => ⟨(World.cell?_alloc_lt _ _ _ hy6).trans HX6.out.1, (World.cell?_alloc_lt _ _ _ hy6).trans HX6.out.2.1, (World.cell?_alloc_lt _ _ _ hy6).trans HX6.out.2.2⟩) ?_
          clear hK K hHeld
          refine wpAnyM_step (i := 8) (by kernel_rfl) rfl rfl (fun K hK => ?_)
          go_simp
          have hy7 : ∀ o : Obj, y4 < (w6.alloc o).heap.size := fun o => by simp; omega
          refine hK.out _ _ (fun _ => ⟨(World.cell?_alloc_lt _ _ _ (hy7 _)).trans ((World.cell?_alloc_lt _ _ _ hy6).trans HX6.out.1), (World.cell?_alloc_lt _ _ _ (hy7 _)).trans ((World.cell?_alloc_lt _ _ _ hy6).trans HX6.out.2.1), (World.cell?_alloc_lt _ _ _ (hy7 _)).trans ((World.cell?_alloc_lt _ _ _ hy6).trans HX6.out.2.2)⟩) ?_
          clear hK K
          refine wpAnyM_step (i := 9) (by kernel_rfl) rfl rfl (fun K hK => ?_)
          go_simp
          have RA : ∀ a b : Obj, RdV ((w6.alloc a).alloc b) A n l := fun a b => (HR6.out.alloc a).alloc b
          have RT : ∀ a b : Obj, RdV ((w6.alloc a).alloc b) T (n - (k)) (l.drop (k)) := fun a b => by
            have := (RA a b).drop (k := k) (by omega) hnc
            rw [HT.out] at this
            exact this
          refine (concat_any [⟨A, k, c, l.take k⟩, ⟨some ⟨w6.heap.size, 0, none⟩, 1, 1, [(⟨s, [], true⟩ : Vr)]⟩, ⟨T, n - (k), c - (k), l.drop (k)⟩] (w6.heap.size + 1) 3 _ (by have := Blk.new (w6.alloc (.cells #[.string ⟨s.toArray⟩, .string ⟨#[]⟩, .bool true] 42)) 22 (List.map Rw.v [⟨A, k, c, l.take k⟩, ⟨some ⟨w6.heap.size, 0, none⟩, 1, 1, [(⟨s, [], true⟩ : Vr)]⟩, ⟨T, n - (k), c - (k), l.drop (k)⟩]).toArray; rw [World.size_alloc] at this; exact this) ?ok (Nat.le_refl 3) 3 rfl).mono ?_
          case ok =>
            intro r hr
            simp only [List.mem_cons, List.not_mem_nil, or_false] at hr
            rcases hr with rfl | rfl | rfl
            · exact ⟨(RA _ _).take hkl, by show k ≤ 1000; omega⟩
            · exact ⟨one_var ((Blk.new w6 42 #[.string ⟨s.toArray⟩, .string ⟨#[]⟩, .bool true]).alloc _), by show 1 ≤ 1000; omega⟩
            · refine ⟨?_, by show n - (k) ≤ 1000; omega⟩
              exact RT _ _
          rintro e w7 ⟨A', c', rfl, hO, hb⟩
          have hsz := HB6.out.size
          have HB7 := hide (below_more (((HB6.out.alloc hsz _).alloc (by simp; omega) _).drew) (Nat.le_refl _) hb)
          have hy8 : ∀ o u : Obj, y4 < ((w6.alloc o).alloc u).heap.size := fun o u => by simp; omega
          have HX7 : w7.cell? ⟨y4, 0, none⟩ = some (.string ⟨s.toArray⟩) ∧ w7.cell? ⟨y4, 1, none⟩ = some (.string ⟨#[]⟩) ∧ w7.cell? ⟨y4, 2, none⟩ = some (.bool true) := ⟨(hb.cell (p := ⟨y4, 0, none⟩) (hy8 _ _)).trans ((World.cell?_alloc_lt _ _ _ (hy7 _)).trans ((World.cell?_alloc_lt _ _ _ hy6).trans HX6.out.1)), (hb.cell (p := ⟨y4, 1, none⟩) (hy8 _ _)).trans ((World.cell?_alloc_lt _ _ _ (hy7 _)).trans ((World.cell?_alloc_lt _ _ _ hy6).trans HX6.out.2.1)), (hb.cell (p := ⟨y4, 2, none⟩) (hy8 _ _)).trans ((World.cell?_alloc_lt _ _ _ (hy7 _)).trans ((World.cell?_alloc_lt _ _ _ hy6).trans HX6.out.2.2))⟩
          rw [HLJ.out] at hO ⊢
          rw [HCJ.out] at hO
          have HO := hide (own_more hO (by show _ ≤ ((w6.alloc _).alloc _).heap.size; simp; omega) : OwV w.heap.size w7 A' _ c' _)
          clear hO hb
          refine hK.out _ _ (fun _ => HX7) ?_
          clear hK K
          refine wpAnyM_step (i := 10) (by kernel_rfl) rfl rfl (fun K hK => ?_)
          go_simp
          refine hK.out _ _ (fun _ => HX7) ?_
          clear hK K
          refine wpAnyM_step (i := 11) (by kernel_rfl) rfl rfl (fun K hK => ?_)
          go_simp
          refine hK.out _ _ (fun h => absurd rfl h) ?_
          refine wpAnyM_done (by kernel_rfl) ?_ _
          clear hK K
          go_wp2_with fail
          refine bodyPost_ret (v := .tuple #[.slice A' Lq c', .int .i64 0]) (by simp only [results, Tryz.results30]; go_simp) rfl ⟨A', c', by rw [HLq.out, HRE.out]; rfl, by rw [HLq.out]; exact HO.out, HB7.out⟩
  | true =>
    obtain ⟨y, hy, hoy, hkn, hyn⟩ := HKF.out rfl
    subst hoy
    obtain ⟨on, ov, oe⟩ := o
    have hy' := hide hy
    clear hy
    have hy := hy'
    clear hy'
    clear HKF HKN
    go_enter Tryz.func30, Tryz.ntmps30
    go_wp2_with fail
    refine XF.out.mono ?_
    rintro e w1 ⟨rfl, hb⟩
    have HB1 := hide hb
    have HR1 := hide (HR.out.below hb)
    clear hb
    obtain ⟨g, o0, rfl, hg, q0, q1, q2⟩ := var_cells HR1.out hy.out
    have hia := fun W => var_at g o0 n c k (k : Int) rfl hkn W
    obtain ⟨z, hz⟩ : ∃ z, w1.heap.size = z := ⟨_, rfl⟩
    obtain ⟨W2, hW2⟩ : ∃ W, w1.alloc (.cells #[.string ⟨on.toArray⟩, .string ⟨ov.toArray⟩, .bool oe] 42) = W := ⟨_, rfl⟩
    have HB2 : Hid (Below w.heap.size w W2) := hide (by rw [← hW2]; exact HB1.out.alloc HB1.out.size _)
    have HR2 : Hid (RdV W2 (some ⟨g, o0, none⟩) n l) := hide (by rw [← hW2]; exact (Reads.alloc HR1.out (Nat.le_refl _) _).more (by simp))
    have b2 : Blk W2 z 42 #[.string ⟨on.toArray⟩, .string ⟨ov.toArray⟩, .bool oe] := by rw [← hW2, ← hz]; exact Blk.new w1 42 _
    have hz2 : z < W2.heap.size := by rw [← hW2, ← hz]; simp
    have XS2 := hide (XS.out ⟨on, ov, oe⟩ W2)
    obtain ⟨d0, d1, d2, _, _, _⟩ := Blk.three b2
    have HD := hide (⟨d0, d1, d2⟩ : W2.cell? ⟨z, 0, none⟩ = some (.string ⟨on.toArray⟩) ∧ W2.cell? ⟨z, 1, none⟩ = some (.string ⟨ov.toArray⟩) ∧ W2.cell? ⟨z, 2, none⟩ = some (.bool oe))
    have HW2 := hide hW2
    have HZ := hide hz
    clear hW2 hz b2 d0 d1 d2
    go_wp2_with fail
    try rw [HW2.out]
    try rw [HZ.out]
    refine XS2.out.mono ?_
    rintro e w3 ⟨rfl, hb⟩
    have HB3 := hide (below_more HB2.out (Nat.le_refl _) hb)
    have HR3 := hide (HR2.out.below hb)
    have HD3 := hide (⟨(hb.cell (p := ⟨z, 0, none⟩) hz2).trans HD.out.1, (hb.cell (p := ⟨z, 1, none⟩) hz2).trans HD.out.2.1, (hb.cell (p := ⟨z, 2, none⟩) hz2).trans HD.out.2.2⟩ : w3.cell? ⟨z, 0, none⟩ = some (.string ⟨on.toArray⟩) ∧ w3.cell? ⟨z, 1, none⟩ = some (.string ⟨ov.toArray⟩) ∧ w3.cell? ⟨z, 2, none⟩ = some (.bool oe))
    have hz3 : z < w3.heap.size := Nat.lt_of_lt_of_le hz2 hb.size
    unfold expV Vr.v
    dsimp only
    clear hb XS2 HD HR2 HB2 HW2 HZ
    obtain ⟨y4, hy4⟩ : ∃ z, w3.heap.size = z := ⟨_, rfl⟩
    obtain ⟨W4, hW4⟩ : ∃ W, w3.alloc (.cells #[.string ⟨on.toArray⟩, .string ⟨ov.toArray⟩, .bool true] 42) = W := ⟨_, rfl⟩
    have HB4 : Hid (Below w.heap.size w W4) := hide (by rw [← hW4]; exact HB3.out.alloc HB3.out.size _)
    have HR4 : Hid (RdV W4 (some ⟨g, o0, none⟩) n l) := hide (by rw [← hW4]; exact (Reads.alloc HR3.out (Nat.le_refl _) _).more (by simp))
    have b4 : Blk W4 y4 42 #[.string ⟨on.toArray⟩, .string ⟨ov.toArray⟩, .bool true] := by rw [← hW4, ← hy4]; exact Blk.new w3 42 _
    have hy4' : y4 < W4.heap.size := by rw [← hW4, ← hy4]; simp
    have hz4 : z < W4.heap.size := by rw [← hW4]; simp; omega
    have HD4 := hide (by rw [← hW4]; exact ⟨(World.cell?_alloc_lt _ _ _ hz3).trans HD3.out.1, (World.cell?_alloc_lt _ _ _ hz3).trans HD3.out.2.1, (World.cell?_alloc_lt _ _ _ hz3).trans HD3.out.2.2⟩ : W4.cell? ⟨z, 0, none⟩ = some (.string ⟨on.toArray⟩) ∧ W4.cell? ⟨z, 1, none⟩ = some (.string ⟨ov.toArray⟩) ∧ W4.cell? ⟨z, 2, none⟩ = some (.bool oe))
    obtain ⟨d0, d1, d2, _, _, _⟩ := Blk.three b4
    have HX4 := hide (⟨d0, d1, d2⟩ : W4.cell? ⟨y4, 0, none⟩ = some (.string ⟨on.toArray⟩) ∧ W4.cell? ⟨y4, 1, none⟩ = some (.string ⟨ov.toArray⟩) ∧ W4.cell? ⟨y4, 2, none⟩ = some (.bool true))
    have HW4 := hide hW4
    have HY := hide hy4
    clear hW4 hy4 b4 d0 d1 d2
    have XC4 := hide (XC.out W4 HR4.out)
    go_wp2_with fail
    try rw [HW4.out]
    try rw [HY.out]
    refine XC4.out.mono ?_
    rintro e w5 ⟨rfl, hb⟩
    have HB5 := hide (below_more HB4.out (Nat.le_refl _) hb)
    have HR5 := hide (HR4.out.below hb)
    have hx5 : w5.cell? ⟨y4, 0, none⟩ = some (.string ⟨on.toArray⟩) ∧ w5.cell? ⟨y4, 1, none⟩ = some (.string ⟨ov.toArray⟩) ∧ w5.cell? ⟨y4, 2, none⟩ = some (.bool true) := ⟨(hb.cell (p := ⟨y4, 0, none⟩) hy4').trans HX4.out.1, (hb.cell (p := ⟨y4, 1, none⟩) hy4').trans HX4.out.2.1, (hb.cell (p := ⟨y4, 2, none⟩) hy4').trans HX4.out.2.2⟩
    have hd5 : w5.cell? ⟨z, 0, none⟩ = some (.string ⟨on.toArray⟩) ∧ w5.cell? ⟨z, 1, none⟩ = some (.string ⟨ov.toArray⟩) ∧ w5.cell? ⟨z, 2, none⟩ = some (.bool oe) := ⟨(hb.cell (p := ⟨z, 0, none⟩) hz4).trans HD4.out.1, (hb.cell (p := ⟨z, 1, none⟩) hz4).trans HD4.out.2.1, (hb.cell (p := ⟨z, 2, none⟩) hz4).trans HD4.out.2.2⟩
    have hy5 : y4 < w5.heap.size := Nat.lt_of_lt_of_le hy4' hb.size
    have hz5 : z < w5.heap.size := Nat.lt_of_lt_of_le hz4 hb.size
    clear hb XC4 HX4 HD4 HR4 HB4 HW4 HY HD3 HR3 HB3
    have HX5 := hide hx5
    have HD5 := hide hd5
    have XV5 := hide (fun W => valid_any (⟨on, ov, true⟩ : Vr) hyn W)
    clear hd5
    cases ck with
    | false =>
      obtain ⟨rfl, rfl⟩ : RL = l ∧ RE = 2 := by have := HCE.out; simpa using this
      go_wp2_with fail
      refine (XL.out _ HR5.out).mono ?_
      rintro e w9 ⟨A', c', rfl, hO, hb⟩
      have HO := hide (own_more hO HB5.out.size)
      have HB9 := hide (below_more HB5.out (Nat.le_refl _) hb)
      have HL' := hide HL.out
      clear hO hb
      go_wp2_with fail
      refine bodyPost_ret (v := .tuple #[.slice A' n c', .int .i64 2]) (by simp only [results, Tryz.results30]; go_simp) rfl ⟨A', c', by rw [HL'.out]; rfl, by rw [HL'.out]; exact HO.out, HB9.out⟩
    | true =>
      obtain ⟨x0, x1, x2⟩ := hx5
      go_wp2_with fail
      obtain ⟨q, hq⟩ : ∃ q, validP (⟨on, ov, true⟩ : Vr) = q := ⟨_, rfl⟩
      rw [hq] at XV5
      refine (XV5.out _).mono ?_
      rintro e w6 ⟨rfl, hb⟩
      have HB6 := hide (below_more HB5.out (Nat.le_refl _) hb)
      have HR6 := hide (HR5.out.below hb)
      have HX6 := hide (⟨(hb.cell (p := ⟨y4, 0, none⟩) hy5).trans HX5.out.1, (hb.cell (p := ⟨y4, 1, none⟩) hy5).trans HX5.out.2.1, (hb.cell (p := ⟨y4, 2, none⟩) hy5).trans HX5.out.2.2⟩ : w6.cell? ⟨y4, 0, none⟩ = some (.string ⟨on.toArray⟩) ∧ w6.cell? ⟨y4, 1, none⟩ = some (.string ⟨ov.toArray⟩) ∧ w6.cell? ⟨y4, 2, none⟩ = some (.bool true))
      have HD6 := hide (⟨(hb.cell (p := ⟨z, 0, none⟩) hz5).trans HD5.out.1, (hb.cell (p := ⟨z, 1, none⟩) hz5).trans HD5.out.2.1, (hb.cell (p := ⟨z, 2, none⟩) hz5).trans HD5.out.2.2⟩ : w6.cell? ⟨z, 0, none⟩ = some (.string ⟨on.toArray⟩) ∧ w6.cell? ⟨z, 1, none⟩ = some (.string ⟨ov.toArray⟩) ∧ w6.cell? ⟨z, 2, none⟩ = some (.bool oe))
      have hy6 : y4 < w6.heap.size := Nat.lt_of_lt_of_le hy5 hb.size
      clear hb x0 x1 x2 HX5 HD5 XV5
      have HQ := hide hq
      clear hq
      cases q with
      | false =>
        obtain ⟨rfl, rfl⟩ : RL = l ∧ RE = 2 := by have := HCE.out; rw [if_neg (by rw [show (true && validP (expV ⟨on, ov, oe⟩)) = false from (Bool.true_and _).trans HQ.out]; decide)] at this; simpa using this
        go_wp2_with fail
        refine (XL.out _ HR6.out).mono ?_
        rintro e w9 ⟨A', c', rfl, hO, hb⟩
        have HO := hide (own_more hO HB6.out.size)
        have HB9 := hide (below_more HB6.out (Nat.le_refl _) hb)
        have HL' := hide HL.out
        clear hO hb
        go_wp2_with fail
        refine bodyPost_ret (v := .tuple #[.slice A' n c', .int .i64 2]) (by simp only [results, Tryz.results30]; go_simp) rfl ⟨A', c', by rw [HL'.out]; rfl, by rw [HL'.out]; exact HO.out, HB9.out⟩
      | true =>
        have HCV : Hid ((RL, RE) = (l.take k ++ [(⟨on, ov, true⟩ : Vr)] ++ l.drop (k + 1), 0)) := hide (by
          have e := (Bool.true_and _).trans HQ.out
          rw [HCE.out]
          unfold expV at *
          dsimp only at *
          simp only [e, if_true])
        clear HCE HQ
        by_cases heq : oe = true
        · have HS : Hid ((RL, RE) = (l, 0)) := hide (by rw [HCV.out, split_same (by rw [hy.out]; rw [heq])])
          clear HCV
          obtain ⟨x0, x1, x2⟩ := HX6.out
          obtain ⟨d0, d1, d2⟩ := HD6.out
          subst heq
          obtain ⟨rfl, rfl⟩ : RL = l ∧ RE = 0 := by have := HS.out; simpa using this
          go_wp2_with fail
          refine (XL.out _ HR6.out).mono ?_
          rintro e w9 ⟨A', c', rfl, hO, hb⟩
          have HO := hide (own_more hO HB6.out.size)
          have HB9 := hide (below_more HB6.out (Nat.le_refl _) hb)
          have HL' := hide HL.out
          clear hO hb
          go_wp2_with fail
          refine bodyPost_ret (v := .tuple #[.slice A' n c', .int .i64 0]) (by simp only [results, Tryz.results30]; go_simp) rfl ⟨A', c', by rw [HL'.out]; rfl, by rw [HL'.out]; exact HO.out, HB9.out⟩
        · have HS : Hid ((RL, RE) = (l.take k ++ [(⟨on, ov, true⟩ : Vr)] ++ l.drop (k + 1), 0)) := HCV
          clear HCV
          obtain ⟨x0, x1, x2⟩ := HX6.out
          obtain ⟨d0, d1, d2⟩ := HD6.out
          have hne : (true == oe) = false := by cases oe <;> simp_all
          have HRL : Hid (RL = l.take k ++ [(⟨on, ov, true⟩ : Vr)] ++ l.drop (k + 1)) := hide (congrArg Prod.fst HS.out)
          have HRE : Hid (RE = 0) := hide (congrArg Prod.snd HS.out)
          obtain ⟨Lq, hLq⟩ : ∃ q, RL.length = q := ⟨_, rfl⟩
          have HLq := hide hLq
          clear hLq
          have hsl1 := fun W => slv_to (some (⟨g, o0, none⟩ : Addr)) n c k (k : Int) rfl (by omega) W
          obtain ⟨T, hT⟩ : ∃ T, (if c = k + 1 then (some (⟨g, o0, none⟩ : Addr)) else (some (⟨g, o0, none⟩ : Addr)).map (·.add ((k + 1) * 3))) = T := ⟨_, rfl⟩
          have hsl2 : ∀ W, (Instr.slice 22 (.slice (some (⟨g, o0, none⟩ : Addr)) n c) (some (.int .i64 ((k : Int) + 1))) none none).run Tryz.prog W = .ok (.slice T (n - (k + 1)) (c - (k + 1))) W := fun W => by rw [← hT]; exact slv_from (some (⟨g, o0, none⟩ : Addr)) n c (k + 1) ((k : Int) + 1) (by omega) (by omega) W
          have HT := hide hT
          clear hT
          have kw : IntKind.i64.wrap ((k : Int) + 1) = (k : Int) + 1 := by simp [IntKind.wrap, IntKind.bits, IntKind.signed]; omega
          have HLJ : Hid (sumN [⟨(some (⟨g, o0, none⟩ : Addr)), k, c, l.take k⟩, ⟨some ⟨w6.heap.size, 0, none⟩, 1, 1, [(⟨on, ov, true⟩ : Vr)]⟩, ⟨T, n - (k + 1), c - (k + 1), l.drop (k + 1)⟩] = Lq) := hide (by
            rw [← HLq.out, HRL.out]
            have := HL.out
            simp only [sumN, List.map_cons, List.map_nil, List.sum_cons, List.sum_nil, List.length_append, List.length_take, List.length_drop, List.length_singleton]
            omega)
          have HCJ : Hid (catR [⟨(some (⟨g, o0, none⟩ : Addr)), k, c, l.take k⟩, ⟨some ⟨w6.heap.size, 0, none⟩, 1, 1, [(⟨on, ov, true⟩ : Vr)]⟩, ⟨T, n - (k + 1), c - (k + 1), l.drop (k + 1)⟩] = RL) := hide (by rw [HRL.out]; simp [catR])
          have HXX := HX6
          go_wp2_with fail
          clear d0 d1 d2 x0 x1 x2
          refine wp_region_M (fun V => V.cell? ⟨y4, 0, none⟩ = some (.string ⟨on.toArray⟩) ∧ V.cell? ⟨y4, 1, none⟩ = some (.string ⟨ov.toArray⟩) ∧ V.cell? ⟨y4, 2, none⟩ = some (.bool true)) 12 rfl HX6.out (fun hHeld => ?_)
          refine wpAnyM_take (i := 0) (v := ?_) rfl rfl (by kernel_rfl) (fun _ _ _ h => h) (Or.inl ⟨by rfl, ?_⟩) (by assumption) ?_
          rotate_left
          · (intro V hV; (try dsimp only at hV); go_simp; with_reducible rfl)
          try simp only [Act.put, List.setIfInBounds_toArray, List.set_cons_zero, List.set_cons_succ]
          refine wpAnyM_take (i := 1) (v := ?_) rfl rfl (by kernel_rfl) (fun _ _ _ h => h) (Or.inl ⟨by rfl, ?_⟩) (by assumption) ?_
          rotate_left
          · (intro V hV; (try dsimp only at hV); go_simp; with_reducible rfl)
          try simp only [Act.put, List.setIfInBounds_toArray, List.set_cons_zero, List.set_cons_succ]
          refine wpAnyM_take (i := 2) (v := ?_) rfl rfl (by kernel_rfl) (fun _ _ _ h => h) (Or.inl ⟨by rfl, ?_⟩) (by assumption) ?_
          rotate_left
          · (intro V hV; (try dsimp only at hV); go_simp; with_reducible rfl)
          try simp only [Act.put, List.setIfInBounds_toArray, List.set_cons_zero, List.set_cons_succ]
          refine wpAnyM_take (i := 3) (v := ?_) rfl rfl (by kernel_rfl) (fun _ _ _ h => h) (Or.inl ⟨by rfl, ?_⟩) (by assumption) ?_
          rotate_left
          · (intro V hV; (try dsimp only at hV); go_simp; with_reducible rfl)
          try simp only [Act.put, List.setIfInBounds_toArray, List.set_cons_zero, List.set_cons_succ]
          refine wpAnyM_take (i := 5) (v := ?_) rfl rfl (by kernel_rfl) (fun _ _ _ h => h) (Or.inl ⟨by rfl, ?_⟩) (by assumption) ?_
          rotate_left
          · (intro V hV; (try dsimp only at hV); go_simp; with_reducible rfl)
          try simp only [Act.put, List.setIfInBounds_toArray, List.set_cons_zero, List.set_cons_succ]
          refine wpAnyM_take (i := 6) (v := ?_) rfl rfl (by kernel_rfl) (fun _ _ _ h => h) (Or.inl ⟨by rfl, ?_⟩) (by assumption) ?_
          rotate_left
          · (intro V hV; (try dsimp only at hV); go_simp; with_reducible rfl)
          try simp only [Act.put, List.setIfInBounds_toArray, List.set_cons_zero, List.set_cons_succ]
          refine wpAnyM_take (i := 7) (v := ?_) rfl rfl (by kernel_rfl) (fun _ _ _ h => h) (Or.inl ⟨by rfl, ?_⟩) (by assumption) ?_
          rotate_left
          · (intro V hV; (try dsimp only at hV); go_simp; with_reducible rfl)
          try simp only [Act.put, List.setIfInBounds_toArray, List.set_cons_zero, List.set_cons_succ]
          refine wpAnyM_take (i := 8) (v := ?_) rfl rfl (by kernel_rfl) (fun _ _ _ h => h) (Or.inl ⟨by rfl, ?_⟩) (by assumption) ?_
          rotate_left
          · (intro V hV; (try dsimp only at hV); go_simp; with_reducible rfl)
          try simp only [Act.put, List.setIfInBounds_toArray, List.set_cons_zero, List.set_cons_succ]
          refine wpAnyM_step (i := 4) (by kernel_rfl) rfl rfl (fun K hK => ?_)
          go_simp
          refine hK.out _ _ (fun _ => ⟨(World.cell?_alloc_lt _ _ _ hy6).trans HX6.out.1, (World.cell?_alloc_lt _ _ _ hy6).trans HX6.out.2.1, (World.cell?_alloc_lt _ _ _ hy6).trans HX6.out.2.2⟩) ?_
          clear hK K hHeld
          refine wpAnyM_step (i := 9) (by kernel_rfl) rfl rfl (fun K hK => ?_)
          go_simp
          have hy7 : ∀ o : Obj, y4 < (w6.alloc o).heap.size := fun o => by simp; omega
          refine hK.out _ _ (fun _ => ⟨(World.cell?_alloc_lt _ _ _ (hy7 _)).trans ((World.cell?_alloc_lt _ _ _ hy6).trans HX6.out.1), (World.cell?_alloc_lt _ _ _ (hy7 _)).trans ((World.cell?_alloc_lt _ _ _ hy6).trans HX6.out.2.1), (World.cell?_alloc_lt _ _ _ (hy7 _)).trans ((World.cell?_alloc_lt _ _ _ hy6).trans HX6.out.2.2)⟩) ?_
          clear hK K
          refine wpAnyM_step (i := 10) (by kernel_rfl) rfl rfl (fun K hK => ?_)
          go_simp
          have RA : ∀ a b : Obj, RdV ((w6.alloc a).alloc b) (some (⟨g, o0, none⟩ : Addr)) n l := fun a b => (HR6.out.alloc a).alloc b
          have RT : ∀ a b : Obj, RdV ((w6.alloc a).alloc b) T (n - (k + 1)) (l.drop (k + 1)) := fun a b => by
            have := (RA a b).drop (k := k + 1) (by omega) hnc
            rw [HT.out] at this
            exact this
          refine (concat_any [⟨(some (⟨g, o0, none⟩ : Addr)), k, c, l.take k⟩, ⟨some ⟨w6.heap.size, 0, none⟩, 1, 1, [(⟨on, ov, true⟩ : Vr)]⟩, ⟨T, n - (k + 1), c - (k + 1), l.drop (k + 1)⟩] (w6.heap.size + 1) 3 _ (by have := Blk.new (w6.alloc (.cells #[.string ⟨on.toArray⟩, .string ⟨ov.toArray⟩, .bool true] 42)) 22 (List.map Rw.v [⟨(some (⟨g, o0, none⟩ : Addr)), k, c, l.take k⟩, ⟨some ⟨w6.heap.size, 0, none⟩, 1, 1, [(⟨on, ov, true⟩ : Vr)]⟩, ⟨T, n - (k + 1), c - (k + 1), l.drop (k + 1)⟩]).toArray; rw [World.size_alloc] at this; exact this) ?ok (Nat.le_refl 3) 3 rfl).mono ?_
          case ok =>
            intro r hr
            simp only [List.mem_cons, List.not_mem_nil, or_false] at hr
            rcases hr with rfl | rfl | rfl
            · exact ⟨(RA _ _).take hkl, by show k ≤ 1000; omega⟩
            · exact ⟨one_var ((Blk.new w6 42 #[.string ⟨on.toArray⟩, .string ⟨ov.toArray⟩, .bool true]).alloc _), by show 1 ≤ 1000; omega⟩
            · refine ⟨?_, by show n - (k + 1) ≤ 1000; omega⟩
              exact RT _ _
          rintro e w7 ⟨A', c', rfl, hO, hb⟩
          have hsz := HB6.out.size
          have HB7 := hide (below_more (((HB6.out.alloc hsz _).alloc (by simp; omega) _).drew) (Nat.le_refl _) hb)
          have hy8 : ∀ o u : Obj, y4 < ((w6.alloc o).alloc u).heap.size := fun o u => by simp; omega
          have HX7 : w7.cell? ⟨y4, 0, none⟩ = some (.string ⟨on.toArray⟩) ∧ w7.cell? ⟨y4, 1, none⟩ = some (.string ⟨ov.toArray⟩) ∧ w7.cell? ⟨y4, 2, none⟩ = some (.bool true) := ⟨(hb.cell (p := ⟨y4, 0, none⟩) (hy8 _ _)).trans ((World.cell?_alloc_lt _ _ _ (hy7 _)).trans ((World.cell?_alloc_lt _ _ _ hy6).trans HX6.out.1)), (hb.cell (p := ⟨y4, 1, none⟩) (hy8 _ _)).trans ((World.cell?_alloc_lt _ _ _ (hy7 _)).trans ((World.cell?_alloc_lt _ _ _ hy6).trans HX6.out.2.1)), (hb.cell (p := ⟨y4, 2, none⟩) (hy8 _ _)).trans ((World.cell?_alloc_lt _ _ _ (hy7 _)).trans ((World.cell?_alloc_lt _ _ _ hy6).trans HX6.out.2.2))⟩
          rw [HLJ.out] at hO ⊢
          rw [HCJ.out] at hO
          have HO := hide (own_more hO (by show _ ≤ ((w6.alloc _).alloc _).heap.size; simp; omega) : OwV w.heap.size w7 A' _ c' _)
          clear hO hb
          refine hK.out _ _ (fun _ => HX7) ?_
          clear hK K
          refine wpAnyM_step (i := 11) (by kernel_rfl) rfl rfl (fun K hK => ?_)
          go_simp
          refine hK.out _ _ (fun _ => HX7) ?_
          clear hK K
          refine wpAnyM_step (i := 12) (by kernel_rfl) rfl rfl (fun K hK => ?_)
          go_simp
          refine hK.out _ _ (fun h => absurd rfl h) ?_
          refine wpAnyM_done (by kernel_rfl) ?_ _
          clear hK K
          go_wp2_with fail
          refine bodyPost_ret (v := .tuple #[.slice A' Lq c', .int .i64 0]) (by simp only [results, Tryz.results30]; go_simp) rfl ⟨A', c', by rw [HLq.out, HRE.out]; rfl, by rw [HLq.out]; exact HO.out, HB7.out⟩
end Go.Proofs.YtpioelpmdaeieaaGreatDoor
