/- The contract of the reference's Skip. -/
import Derived.Test.YtpfcfcbljkdkhaaDoorRefS
namespace Go.Proofs.YtpfcfcbljkdkhaaDoor
open Go.RowKit
set_option linter.unusedVariables false
theorem single_step (p : LB) (j : Nat) : singleL p j = if p.length ≤ j then (p.length, 0, false) else if p.getD j 0 = 0 then (j, 0, false) else if p.getD j 0 = 39 then (j + 1, 0, true) else singleL p (j + 1) := by
  by_cases h1 : p.length ≤ j
  · rw [if_pos h1]; unfold singleL; rw [List.drop_eq_nil_of_le h1]; rfl
  rw [if_neg h1]
  have hj : j < p.length := by omega
  have hg : p.getD j 0 = p[j] := by simp [List.getD_eq_getElem?_getD, hj]
  unfold singleL
  rw [List.drop_eq_getElem_cons hj, List.findIdx?_cons, ← hg]
  by_cases h2 : p.getD j 0 = 0
  · have hq : qz (p.getD j 0) = true := by rw [h2]; rfl
    rw [if_pos h2, hq]
    show (if p.getD (j + 0) 0 = 0 then (j + 0, (0 : UInt8), false) else (j + 0 + 1, 0, true)) = _
    rw [Nat.add_zero, if_pos h2]
  rw [if_neg h2]
  by_cases h3 : p.getD j 0 = 39
  · have hq : qz (p.getD j 0) = true := by rw [h3]; rfl
    rw [if_pos h3, hq]
    show (if p.getD (j + 0) 0 = 0 then (j + 0, (0 : UInt8), false) else (j + 0 + 1, 0, true)) = _
    rw [Nat.add_zero, if_neg h2]
  rw [if_neg h3]
  have hq : qz (p.getD j 0) = false := by simp only [qz]; rw [beq_eq_false_iff_ne.2 h3, beq_eq_false_iff_ne.2 h2]; rfl
  rw [hq]
  cases hf : (p.drop (j + 1)).findIdx? qz with
  | none => simp
  | some k =>
    simp only [Bool.false_eq_true, if_false, Option.map_some]
    rw [show j + (k + 1) = j + 1 + k by omega]
def USet (p : LB) (i : Nat) : Prop := ∀ j, i < j → j ≤ p.length → UntilC p j (j : Int) 34 34 true ∧ UntilC p j (j : Int) 41 41 false ∧ UntilC p j (j : Int) 125 125 false
set_option maxRecDepth 1000000 in
set_option maxHeartbeats 8000000 in
theorem skip_of (p : LB) (hl : p.length ≤ 100000) (i : Nat) (hU : USet p i) : SkipC p i := by
  intro w
  have HU := hide hU
  clear hU
  obtain ⟨R, hR⟩ : ∃ R, skipP p i = R := ⟨_, rfl⟩
  rw [hR]
  have HR : Hid (R = sk p i []) := hide hR.symm
  clear hR
  have kn : ¬ (i : Int) < 0 := by omega
  by_cases hlt : i < p.length
  rotate_left
  · have k2 : (p.length : Int) ≤ (i : Int) := by omega
    have HX : Hid (R = (p.length, false)) := hide (HR.out.trans (sk_end p i [] (by omega)))
    clear HR HU
    go_enter Tryd.func10, Tryd.ntmps10
    go_wp2_with fail
    go_ret2
    exact ⟨by rw [HX.out]; first | done | rfl | (simp; done) | (simp; omega), rfl⟩
  have k2 : ¬ (p.length : Int) ≤ (i : Int) := by omega
  have HH := hide (HR.out.trans (sk_head p i hlt))
  have hix := ix_l p i (p.getD i 0) (getD_some hlt)
  have hix1 : i + 1 < p.length → ∀ W, (Instr.index 9 (.string ⟨p.toArray⟩) (.int .i64 ((i : Int) + 1))).run Tryd.prog W = .ok (.int .u8 ((p.getD (i + 1) 0).toNat : Int)) W := fun h => by
    have := ix_l p (i + 1) (p.getD (i + 1) 0) (getD_some h)
    rw [show ((i + 1 : Nat) : Int) = (i : Int) + 1 by omega] at this
    exact this
  have hd0 : ¬ i + 1 < p.length → p.getD (i + 1) 0 = 0 := fun h => by rw [List.getD_eq_getElem?_getD, List.getElem?_eq_none (by omega)]; rfl
  have kw1 : IntKind.i64.wrap ((i : Int) + 1) = (i : Int) + 1 := by simp [IntKind.wrap, IntKind.bits, IntKind.signed]; omega
  have kw2 : IntKind.i64.wrap ((i : Int) + 2) = (i : Int) + 2 := by simp [IntKind.wrap, IntKind.bits, IntKind.signed]; omega
  have t0 := u8_beq (p.getD i 0) 0
  change (((p.getD i 0).toNat : Int) == 0) = _ at t0
  have t96 := u8_beq (p.getD i 0) 96
  change (((p.getD i 0).toNat : Int) == 96) = _ at t96
  have t92 := u8_beq (p.getD i 0) 92
  change (((p.getD i 0).toNat : Int) == 92) = _ at t92
  have t39 := u8_beq (p.getD i 0) 39
  change (((p.getD i 0).toNat : Int) == 39) = _ at t39
  have t34 := u8_beq (p.getD i 0) 34
  change (((p.getD i 0).toNat : Int) == 34) = _ at t34
  have t40 := u8_beq (p.getD i 0) 40
  change (((p.getD i 0).toNat : Int) == 40) = _ at t40
  have t36 := u8_beq (p.getD i 0) 36
  change (((p.getD i 0).toNat : Int) == 36) = _ at t36
  have d0 := u8_beq (p.getD (i + 1) 0) 0
  change (((p.getD (i + 1) 0).toNat : Int) == 0) = _ at d0
  have d40 := u8_beq (p.getD (i + 1) 0) 40
  change (((p.getD (i + 1) 0).toNat : Int) == 40) = _ at d40
  have d123 := u8_beq (p.getD (i + 1) 0) 123
  change (((p.getD (i + 1) 0).toNat : Int) == 123) = _ at d123
  generalize p.getD i 0 = c at *
  generalize p.getD (i + 1) 0 = d at *
  have HD0 := hide hd0
  have HI1 := hide hix1
  dsimp only at HH
  clear HR hd0 hix1
  go_enter Tryd.func10, Tryd.ntmps10
  by_cases h0 : c = 0
  · rw [beq_iff_eq.2 h0] at t0
    have HX : Hid (R = (i, false)) := hide (by rw [HH.out]; rw [if_pos (.inl h0)])
    clear HH HU HD0 HI1 t96 t92 t39 t34 t40 t36 d0 d40 d123 h0
    go_wp2_with fail
    go_ret2
    exact ⟨by rw [HX.out]; first | done | rfl | (simp; done) | (simp; omega), rfl⟩
  rw [beq_eq_false_iff_ne.2 h0] at t0
  by_cases h96 : c = 96
  · rw [beq_iff_eq.2 h96] at t96
    have HX : Hid (R = (i, false)) := hide (by rw [HH.out]; rw [if_pos (.inr h96)])
    clear HH HU HD0 HI1 t92 t39 t34 t40 t36 d0 d40 d123 h96 h0
    go_wp2_with fail
    go_ret2
    exact ⟨by rw [HX.out]; first | done | rfl | (simp; done) | (simp; omega), rfl⟩
  rw [beq_eq_false_iff_ne.2 h96] at t96
  have HH := hide (HH.out.trans (if_neg (by simp [h0, h96])))
  by_cases h92 : c = 92
  · rw [beq_iff_eq.2 h92] at t92
    have HH := hide (HH.out.trans (if_pos h92))
    by_cases hi1 : i + 1 < p.length
    · have k3 : (i : Int) + 1 < (p.length : Int) := by omega
      have hix1 := HI1.out hi1
      by_cases hd : d = 0
      · rw [beq_iff_eq.2 hd] at d0
        have HX : Hid (R = (i + 1, false)) := hide (by rw [HH.out]; rw [if_pos ⟨hi1, hd⟩])
        clear HH HU HD0 HI1 t39 t34 t40 t36 d40 d123 h92 h96 h0 hd
        go_wp2_with fail
        go_ret2
        exact ⟨by rw [HX.out]; first | done | rfl | (simp; done) | (simp; omega), rfl⟩
      · rw [beq_eq_false_iff_ne.2 hd] at d0
        have k4 : (i : Int) + 2 ≤ (p.length : Int) := by omega
        have HX : Hid (R = (i + 2, true)) := hide (by rw [HH.out]; rw [if_neg (fun h => hd h.2), Nat.min_eq_left (by omega)])
        clear HH HU HD0 HI1 t39 t34 t40 t36 d40 d123 h92 h96 h0 hd
        go_wp2_with fail
        go_ret2
        exact ⟨by rw [HX.out]; first | done | rfl | (simp; done) | (simp; omega), rfl⟩
    · have k3 : ¬ (i : Int) + 1 < (p.length : Int) := by omega
      have k4 : (p.length : Int) ≤ (i : Int) + 2 := by omega
      have HX : Hid (R = (p.length, true)) := hide (by rw [HH.out]; rw [if_neg (fun h => hi1 h.1), Nat.min_eq_right (by omega)])
      clear HH HU HD0 HI1 t39 t34 t40 t36 d0 d40 d123 h92 h96 h0
      go_wp2_with fail
      go_ret2
      exact ⟨by rw [HX.out]; first | done | rfl | (simp; done) | (simp; omega), rfl⟩
  rw [beq_eq_false_iff_ne.2 h92] at t92
  have HH := hide (HH.out.trans (if_neg h92))
  clear d0
  by_cases h39 : c = 39
  · rw [beq_iff_eq.2 h39] at t39
    have HX : Hid (R = ((singleL p (i + 1)).1, (singleL p (i + 1)).2.2)) := hide (by rw [HH.out, h39]; rfl)
    clear HH HU HD0 HI1 t34 t40 t36 d40 d123 h39 h92 h96 h0
    go_wp2_with fail
    go_loopw [6] (fun u6 wx => ∃ j : Nat, u6 = .int .i64 j ∧ j ≤ p.length ∧ Hid (R = ((singleL p j).1, (singleL p j).2.2)) ∧ wx = w) (fun u6 _ => p.length - (intOf u6).toNat)
    case atStart => exact ⟨i + 1, by go_num, by omega, HX, rfl⟩
    case round =>
      clear HX
      obtain ⟨j, rfl, hjl, HX, rfl⟩ := hrel
      have hs := single_step p j
      by_cases hj : j < p.length
      · have kj : (j : Int) < (p.length : Int) := by omega
        rw [if_neg (by omega)] at hs
        have hjx := ix_l p j (p.getD j 0) (getD_some hj)
        have b0 := u8_beq (p.getD j 0) 0
        change (((p.getD j 0).toNat : Int) == 0) = _ at b0
        have b39 := u8_beq (p.getD j 0) 39
        change (((p.getD j 0).toNat : Int) == 39) = _ at b39
        generalize p.getD j 0 = z at *
        by_cases z0 : z = 0
        · rw [if_pos z0] at hs
          have HY : Hid (R = (j, false)) := hide (by rw [HX.out, hs])
          rw [beq_iff_eq.2 z0] at b0
          clear HX hs z0 b39 hix t39 t92 t96 t0
          go_wp2_with fail
          go_ret2
          exact ⟨by rw [HY.out]; first | done | rfl | (simp; done) | (simp; omega), rfl⟩
        rw [if_neg z0] at hs
        rw [beq_eq_false_iff_ne.2 z0] at b0
        by_cases z39 : z = 39
        · rw [if_pos z39] at hs
          have HY : Hid (R = (j + 1, true)) := hide (by rw [HX.out, hs])
          rw [beq_iff_eq.2 z39] at b39
          clear HX hs z0 z39 hix t39 t92 t96 t0
          go_wp2_with fail
          go_ret2
          exact ⟨by rw [HY.out]; first | done | rfl | (simp; done) | (simp; omega), rfl⟩
        rw [if_neg z39] at hs
        rw [beq_eq_false_iff_ne.2 z39] at b39
        have HY : Hid (R = ((singleL p (j + 1)).1, (singleL p (j + 1)).2.2)) := hide (by rw [HX.out, hs])
        clear HX hs z0 z39 hix t39 t92 t96 t0
        go_wp2_with fail
        go_roundw
        case rel => exact ⟨j + 1, by go_num, by omega, HY, by trivial⟩
        case measure => simp [intOf]; omega
      · have kj : ¬ (j : Int) < (p.length : Int) := by omega
        rw [if_pos (by omega)] at hs
        have HY : Hid (R = (p.length, false)) := hide (by rw [HX.out, hs])
        clear HX hs hix t39 t92 t96 t0
        go_wp2_with fail
        go_ret2
        exact ⟨by rw [HY.out]; first | done | rfl | (simp; done) | (simp; omega), rfl⟩
  rw [beq_eq_false_iff_ne.2 h39] at t39
  by_cases h34 : c = 34
  · rw [beq_iff_eq.2 h34] at t34
    have HX : Hid (R = sk p (i + 1) [34]) := hide (by rw [HH.out, h34]; rfl)
    clear h34 h39 h92 h96 h0 t40 t36 d40 d123
    have HV := hide ((HU.out (i + 1) (by omega) (by omega)).1)
    unfold UntilC at HV
    obtain ⟨V, hV⟩ : ∃ V, sk p (i + 1) [34] = V := ⟨_, rfl⟩
    rw [hV] at HV HX
    have HE : Hid (∀ W, Calls Tryd.prog 26 #[.string ⟨p.toArray⟩, .int .i64 ((i : Int) + 1), .int .u8 34, .bool true] W fun e w' => e = .returned (.tuple #[.int .i64 ((V.1 : Nat) : Int), .bool V.2]) ∧ w' = W) := hide HV.out
    obtain ⟨v1, v2⟩ := V
    dsimp only at HE
    clear HH HU HV hV HD0 HI1
    go_wp2_with fail
    refine (HE.out _).mono ?_
    rintro e w2 ⟨rfl, rfl⟩
    go_wp2_with fail
    go_ret2
    exact ⟨by rw [HX.out]; first | done | rfl | (simp; done) | (simp; omega), rfl⟩
  rw [beq_eq_false_iff_ne.2 h34] at t34
  by_cases h40 : c = 40
  · rw [beq_iff_eq.2 h40] at t40
    have HX : Hid (R = sk p (i + 1) [41]) := hide (by rw [HH.out, h40]; rfl)
    clear h40 h34 h39 h92 h96 h0 t36 d40 d123
    have HV := hide ((HU.out (i + 1) (by omega) (by omega)).2.1)
    unfold UntilC at HV
    obtain ⟨V, hV⟩ : ∃ V, sk p (i + 1) [41] = V := ⟨_, rfl⟩
    rw [hV] at HV HX
    have HE : Hid (∀ W, Calls Tryd.prog 26 #[.string ⟨p.toArray⟩, .int .i64 ((i : Int) + 1), .int .u8 41, .bool false] W fun e w' => e = .returned (.tuple #[.int .i64 ((V.1 : Nat) : Int), .bool V.2]) ∧ w' = W) := hide HV.out
    obtain ⟨v1, v2⟩ := V
    dsimp only at HE
    clear HH HU HV hV HD0 HI1
    go_wp2_with fail
    refine (HE.out _).mono ?_
    rintro e w2 ⟨rfl, rfl⟩
    go_wp2_with fail
    go_ret2
    exact ⟨by rw [HX.out]; first | done | rfl | (simp; done) | (simp; omega), rfl⟩
  rw [beq_eq_false_iff_ne.2 h40] at t40
  by_cases h36 : c = 36
  · rw [beq_iff_eq.2 h36] at t36
    by_cases hi1 : i + 1 < p.length
    · have k3 : (i : Int) + 1 < (p.length : Int) := by omega
      have hix1 := HI1.out hi1
      by_cases e40 : d = 40
      · rw [beq_iff_eq.2 e40] at d40
        have HX : Hid (R = sk p (i + 2) [41]) := hide (by rw [HH.out, if_pos ⟨h36, e40⟩])
        clear h36 h40 h34 h39 h92 h96 h0 e40 d123
        have HV := hide ((HU.out (i + 2) (by omega) (by omega)).2.1)
        unfold UntilC at HV
        obtain ⟨V, hV⟩ : ∃ V, sk p (i + 2) [41] = V := ⟨_, rfl⟩
        rw [hV] at HV HX
        have HE : Hid (∀ W, Calls Tryd.prog 26 #[.string ⟨p.toArray⟩, .int .i64 ((i : Int) + 2), .int .u8 41, .bool false] W fun e w' => e = .returned (.tuple #[.int .i64 ((V.1 : Nat) : Int), .bool V.2]) ∧ w' = W) := hide HV.out
        obtain ⟨v1, v2⟩ := V
        dsimp only at HE
        clear HH HU HV hV HD0 HI1
        go_wp2_with fail
        refine (HE.out _).mono ?_
        rintro e w2 ⟨rfl, rfl⟩
        go_wp2_with fail
        go_ret2
        exact ⟨by rw [HX.out]; first | done | rfl | (simp; done) | (simp; omega), rfl⟩
      rw [beq_eq_false_iff_ne.2 e40] at d40
      by_cases e123 : d = 123
      · rw [beq_iff_eq.2 e123] at d123
        have HX : Hid (R = sk p (i + 2) [125]) := hide (by rw [HH.out, if_neg (fun h => e40 h.2), if_pos ⟨h36, e123⟩])
        clear h36 h40 h34 h39 h92 h96 h0 e40 e123
        have HV := hide ((HU.out (i + 2) (by omega) (by omega)).2.2)
        unfold UntilC at HV
        obtain ⟨V, hV⟩ : ∃ V, sk p (i + 2) [125] = V := ⟨_, rfl⟩
        rw [hV] at HV HX
        have HE : Hid (∀ W, Calls Tryd.prog 26 #[.string ⟨p.toArray⟩, .int .i64 ((i : Int) + 2), .int .u8 125, .bool false] W fun e w' => e = .returned (.tuple #[.int .i64 ((V.1 : Nat) : Int), .bool V.2]) ∧ w' = W) := hide HV.out
        obtain ⟨v1, v2⟩ := V
        dsimp only at HE
        clear HH HU HV hV HD0 HI1
        go_wp2_with fail
        refine (HE.out _).mono ?_
        rintro e w2 ⟨rfl, rfl⟩
        go_wp2_with fail
        go_ret2
        exact ⟨by rw [HX.out]; first | done | rfl | (simp; done) | (simp; omega), rfl⟩
      rw [beq_eq_false_iff_ne.2 e123] at d123
      have HX : Hid (R = (i + 1, true)) := hide (by rw [HH.out]; rw [if_neg (fun h => e40 h.2), if_neg (fun h => e123 h.2), if_neg h34, if_neg h40, if_neg h39])
      clear HH HU HD0 HI1 h36 h40 h34 h39 h92 h96 h0 e40 e123
      go_wp2_with fail
      go_ret2
      exact ⟨by rw [HX.out]; first | done | rfl | (simp; done) | (simp; omega), rfl⟩
    · have k3 : ¬ (i : Int) + 1 < (p.length : Int) := by omega
      have hdz := HD0.out hi1
      have e40 : ¬ d = 40 := by rw [hdz]; decide
      have e123 : ¬ d = 123 := by rw [hdz]; decide
      have HX : Hid (R = (i + 1, true)) := hide (by rw [HH.out]; rw [if_neg (fun h => e40 h.2), if_neg (fun h => e123 h.2), if_neg h34, if_neg h40, if_neg h39])
      clear HH HU HD0 HI1 h36 h40 h34 h39 h92 h96 h0 e40 e123 hdz d40 d123
      go_wp2_with fail
      go_ret2
      exact ⟨by rw [HX.out]; first | done | rfl | (simp; done) | (simp; omega), rfl⟩
  rw [beq_eq_false_iff_ne.2 h36] at t36
  have HX : Hid (R = (i + 1, true)) := hide (by rw [HH.out]; rw [if_neg (fun h => h36 h.1), if_neg (fun h => h36 h.1), if_neg h34, if_neg h40, if_neg h39])
  clear HH HU HD0 HI1 h36 h40 h34 h39 h92 h96 h0 d40 d123
  go_wp2_with fail
  go_ret2
  exact ⟨by rw [HX.out]; first | done | rfl | (simp; done) | (simp; omega), rfl⟩
/-- Skip at every place: what it calls lies further on. -/
theorem skip_all (p : LB) (hl : p.length ≤ 100000) : ∀ (n i : Nat), p.length ≤ i + n → SkipC p i
  | 0, i, hn => skip_of p hl i (fun j h1 h2 => by omega)
  | n + 1, i, hn => skip_of p hl i (fun j h1 h2 => by
    have hS : ∀ k, j ≤ k → k < p.length → SkipC p k := fun k h3 h4 => skip_all p hl n k (by omega)
    exact ⟨until_q p hl j h2 hS, until_n p hl j 41 (.inr (.inl rfl)) (by decide) h2 hS, until_n p hl j 125 (.inr (.inr rfl)) (by decide) h2 hS⟩)
theorem refskip_any (p : LB) (hl : p.length ≤ 100000) (i : Nat) : SkipC p i := skip_all p hl p.length i (by omega)
end Go.Proofs.YtpfcfcbljkdkhaaDoor
