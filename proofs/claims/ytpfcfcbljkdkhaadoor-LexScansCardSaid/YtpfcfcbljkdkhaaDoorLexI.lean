/- The contract of (*scanner).blank. -/
import Derived.Test.YtpfcfcbljkdkhaaDoorLexG
import Derived.Test.YtpfcfcbljkdkhaaDoorMem
namespace Go.Proofs.YtpfcfcbljkdkhaaDoor
open Go.RowKit
set_option linter.unusedVariables false
theorem sl_from (p : LB) (i : Nat) (hi : i ≤ p.length) : ∀ W, (Instr.slice 9 (.string ⟨p.toArray⟩) (some (.int .i64 (i : Int))) none none).run Tryd.prog W = .ok (.string ⟨(p.drop i).toArray⟩) W := fun W => by
  rw [run_slice_string_from_if W 9 ⟨p.toArray⟩ .i64 (i : Int) Tryd.underlying9, if_pos ⟨by omega, by show (i : Int) ≤ ((p.length : Nat) : Int); omega⟩]
  show Result.ok (Value.string ((⟨p.toArray⟩ : ByteArray).extract i p.length)) W = _
  rw [ext_from]
theorem meas_lt {L g i j : Nat} {W W' : World} (h : W.cell? ⟨g, 1, none⟩ = some (.int .i64 ((i : Nat) : Int))) (h' : W'.cell? ⟨g, 1, none⟩ = some (.int .i64 ((j : Nat) : Int))) (hlt : j < i) (hj : j < L) :
    L - (intOf ((W.cell? ⟨g, 1, none⟩).getD undef)).toNat < L - (intOf ((W'.cell? ⟨g, 1, none⟩).getD undef)).toNat := by
  rw [h, h']; simp [intOf]; omega
set_option maxRecDepth 100000 in
set_option maxHeartbeats 8000000 in
theorem blank_any (B g : Nat) (p : LB) (s : S) (w : World) (hl : p.length ≤ 100000) (ha : s.at_ ≤ p.length) (h : ScAt B w g p s) (hBw : B ≤ w.heap.size) :
    Calls Tryd.prog 16 #[.pointer (some ⟨g, 0, none⟩)] w fun e w' => e = .returned (.tuple #[]) ∧ ScAt B w' g p { s with at_ := blankP p s.at_ } ∧ Below B w w' := by
  obtain ⟨A, m, k, A', m', k', hS⟩ := h
  have hBg := hS.2.2.2
  have hR0 : blankP p s.at_ = blankL p (p.length + 1) s.at_ := rfl
  obtain ⟨R, hR⟩ : ∃ R, blankP p s.at_ = R := ⟨_, rfl⟩
  rw [hR] at hR0 ⊢
  have HR0 := hide hR0
  have HS0 : Hid (Sc B w g p { s with at_ := s.at_ } A m k A' m' k') := hide hS
  clear hR hR0 hS
  go_enter Tryd.func16, Tryd.ntmps16
  go_wp2_with fail
  go_loopw [] (fun wx => ∃ (j f : Nat), j ≤ p.length ∧ p.length + 1 ≤ f + j ∧ Hid (Sc B wx g p { s with at_ := j } A m k A' m' k') ∧ Hid (Below B w wx) ∧ Hid (R = blankL p f j)) (fun wx => p.length - (intOf ((wx.cell? ⟨g, 1, none⟩).getD undef)).toNat)
  case atStart => exact ⟨s.at_, p.length + 1, ha, by omega, HS0, hide (Below.refl _ _), HR0⟩
  case round =>
    clear HR0 HS0
    obtain ⟨j, f, hj, hf, HS, HB, HR⟩ := hrel
    obtain ⟨⟨c0, c1, _, _, _⟩, _, f1, _, _, _⟩ := HS.out.cells
    have hgl := HS.out.lt
    dsimp only at c1
    have HC1 := hide c1
    by_cases hlt : j < p.length
    · obtain ⟨f, rfl⟩ : ∃ f', f = f' + 1 := ⟨f - 1, by omega⟩
      have hk1 : (j : Int) < (p.length : Int) := by omega
      have hk0 : (j : Int) ≤ (p.length : Int) := by omega
      have hsl := sl_from p j (by omega)
      have g0 := drop_getD p j 0
      have g1 := drop_getD p j 1
      rw [Nat.add_zero] at g0
      have hRl : (p.drop j).length + j = p.length := by rw [List.length_drop]; omega
      have hR2 := HR.out
      unfold blankL at hR2
      rw [if_neg (by omega)] at hR2
      have hln : p.getD j 0 = 35 → 1 ≤ (lineP (p.drop j)).length ∧ j + (lineP (p.drop j)).length ≤ p.length := fun h => (lineP_35 h).2
      obtain ⟨Q, hQ⟩ : ∃ Q, p.drop j = Q := ⟨_, rfl⟩
      rw [hQ] at hsl g0 g1 hRl hR2 hln
      have hix0 : ∀ W, (Instr.index 9 (.string ⟨Q.toArray⟩) (.int .i64 0)).run Tryd.prog W = .ok (.int .u8 ((p.getD j 0).toNat : Int)) W := by
        have := ix_l Q 0 (Q.getD 0 0) (getD_some (by omega))
        rw [g0] at this; exact this
      have P1 := hide (fun W => ixb_l [32, 9] (p.getD j 0) W)
      have hm := ixb_mem [32, 9] (p.getD j 0)
      have e1 : Lib.hasPrefix Q [92, 10] = (p.getD j 0 == 92 && p.getD (j + 1) 0 == 10) := by rw [pre_two 92 10 Q (by decide) (by decide), g0, g1]
      have P2 := hide (fun W => pre_l Q [92, 10] W)
      rw [e1] at P2
      have P3 := hide (fun W => line_any Q W (by omega))
      have hd2 : p.getD (j + 1) 0 = 10 → j + 2 ≤ p.length := fun h => by have := getD_pos (p := p) (i := j + 1) (by rw [h]; decide); omega
      have t35 := u8_beq (p.getD j 0) 35
      change (((p.getD j 0).toNat : Int) == 35) = _ at t35
      obtain ⟨z, hz⟩ : ∃ z, Lib.indexByte [32, 9] (p.getD j 0) = z := ⟨_, rfl⟩
      rw [hz] at P1 hm
      clear hz e1 g0 g1 hQ HR
      generalize p.getD j 0 = c at *
      generalize p.getD (j + 1) 0 = d at *
      generalize hqq : lineP Q = q at *
      have HR2 := hide hR2
      have HM := hide hm
      have HLN := hide hln
      clear hR2 hm hqq hln hRl
      have hw1 : IntKind.i64.wrap ((j : Int) + 1) = (j : Int) + 1 := by simp [IntKind.wrap, IntKind.bits, IntKind.signed]; omega
      have hw2 : IntKind.i64.wrap ((j : Int) + 2) = (j : Int) + 2 := by simp [IntKind.wrap, IntKind.bits, IntKind.signed]; omega
      by_cases h1 : c = 32 ∨ c = 9
      · have hz0 : (0 : Int) ≤ z := HM.out.2 (by simpa using h1)
        have HE : Hid (R = blankL p f (j + 1)) := hide (by rw [HR2.out, if_pos h1])
        clear HR2 HM HLN h1 hd2
        go_wp2_with fail
        go_quiet (fail)
        go_wp2_with fail
        go_quiet (fail)
        go_wp2_with fail
        refine (P1.out _).mono ?_
        rintro e w1 ⟨rfl, rfl⟩
        go_wp2_with fail
        go_roundw
        case rel => exact ⟨j + 1, f, by omega, by omega, hide (by first | exact (HS.out.drewN _).at_ (j + 1) | (have := (HS.out.drewN _).at_ (j + 1); simpa using this)), hide ((belowN _ HB.out).setCell (p := ⟨g, 1, none⟩) hBg _), HE⟩
        case measure => exact meas_lt (i := j + 1) (by first | exact ((HS.out.drewN _).at_ (j + 1)).cells.1.2.1 | (have := ((HS.out.drewN _).at_ (j + 1)).cells.1.2.1; simpa using this)) HC1.out (by omega) hlt
      · have hz0 : ¬ (0 : Int) ≤ z := fun h => h1 (by simpa using HM.out.1 h)
        replace HR2 := hide (HR2.out.trans (if_neg h1))
        clear HM h1
        by_cases h2 : c = 92 ∧ d = 10
        · have B2 : (c == 92 && d == 10) = true := by rw [h2.1, h2.2]; rfl
          have HE : Hid (R = blankL p f (j + 2)) := hide (by rw [HR2.out, if_pos h2])
          have hj2 := hd2 h2.2
          clear HR2 HLN h2 hd2
          go_wp2_with fail
          go_quiet (fail)
          go_wp2_with fail
          go_quiet (fail)
          go_wp2_with fail
          refine (P1.out _).mono ?_
          rintro e w1 ⟨rfl, rfl⟩
          go_wp2_with fail
          refine (P2.out _).mono ?_
          rintro e w1 ⟨rfl, rfl⟩
          try rw [B2]
          go_wp2_with fail
          go_roundw
          case rel => exact ⟨j + 2, f, by omega, by omega, hide (by first | exact (HS.out.drewN _).at_ (j + 2) | (have := (HS.out.drewN _).at_ (j + 2); simpa using this)), hide ((belowN _ HB.out).setCell (p := ⟨g, 1, none⟩) hBg _), HE⟩
          case measure => exact meas_lt (i := j + 2) (by first | exact ((HS.out.drewN _).at_ (j + 2)).cells.1.2.1 | (have := ((HS.out.drewN _).at_ (j + 2)).cells.1.2.1; simpa using this)) HC1.out (by omega) hlt
        · have B2 : (c == 92 && d == 10) = false := by
            rw [Bool.and_eq_false_iff, beq_eq_false_iff_ne, beq_eq_false_iff_ne]
            by_cases a : c = 92
            · exact .inr fun b => h2 ⟨a, b⟩
            · exact .inl a
          replace HR2 := hide (HR2.out.trans (if_neg h2))
          clear h2 hd2
          by_cases h3 : c = 35
          · rw [beq_iff_eq.2 h3] at t35
            have HE : Hid (R = blankL p f (j + q.length)) := hide (by rw [HR2.out, if_pos h3])
            obtain ⟨hq1, hq2⟩ := HLN.out h3
            have hw3 : IntKind.i64.wrap ((j : Int) + (q.length : Int)) = (j : Int) + (q.length : Int) := by simp [IntKind.wrap, IntKind.bits, IntKind.signed]; omega
            clear HR2 HLN h3
            go_wp2_with fail
            go_quiet (fail)
            go_wp2_with fail
            go_quiet (fail)
            go_wp2_with fail
            refine (P1.out _).mono ?_
            rintro e w1 ⟨rfl, rfl⟩
            go_wp2_with fail
            refine (P2.out _).mono ?_
            rintro e w1 ⟨rfl, rfl⟩
            try rw [B2]
            go_wp2_with fail
            refine wp_region_M (fun V => V.cell? ⟨g, 1, none⟩ = some (.int .i64 (j : Int))) 10 rfl (by exact c1) (fun hHeld => ?_)
            refine wpAnyM_take (i := 0) (v := ?_) rfl rfl (by kernel_rfl) (fun _ _ _ h => h) (Or.inl ⟨by rfl, ?_⟩) (by assumption) ?_
            rotate_left
            · (intro V hV; (try dsimp only at hV); go_simp; with_reducible rfl)
            try simp only [Act.put, List.setIfInBounds_toArray, List.set_cons_zero, List.set_cons_succ]
            refine wpAnyM_take (i := 1) (v := ?_) rfl rfl (by kernel_rfl) (fun _ _ _ h => h) (Or.inl ⟨by rfl, ?_⟩) (by assumption) ?_
            rotate_left
            · (intro V hV; (try dsimp only at hV); go_simp; with_reducible rfl)
            try simp only [Act.put, List.setIfInBounds_toArray, List.set_cons_zero, List.set_cons_succ]
            refine wpAnyM_take (i := 2) (v := ?_) rfl rfl (by kernel_rfl) (fun _ _ _ h => h) (Or.inl ⟨by rfl, ?_⟩) (by assumption) ?_
            rotate_left
            · (intro V hV; (try dsimp only at hV); go_simp; with_reducible rfl)
            try simp only [Act.put, List.setIfInBounds_toArray, List.set_cons_zero, List.set_cons_succ]
            refine wpAnyM_take (i := 3) (v := ?_) rfl rfl (by kernel_rfl) (fun _ _ _ h => h) (Or.inl ⟨by rfl, ?_⟩) (by assumption) ?_
            rotate_left
            · (intro V hV; (try dsimp only at hV); go_simp; with_reducible rfl)
            try simp only [Act.put, List.setIfInBounds_toArray, List.set_cons_zero, List.set_cons_succ]
            refine wpAnyM_take (i := 4) (v := ?_) rfl rfl (by kernel_rfl) (fun _ _ _ h => h) (Or.inl ⟨by rfl, ?_⟩) (by assumption) ?_
            rotate_left
            · (intro V hV; (try dsimp only at hV); go_simp; with_reducible rfl)
            try simp only [Act.put, List.setIfInBounds_toArray, List.set_cons_zero, List.set_cons_succ]
            refine wpAnyM_step (i := 5) (by kernel_rfl) rfl rfl (fun K hK => ?_)
            go_simp
            refine (P3.out _).mono ?_
            rintro e w2 ⟨rfl, hb2⟩
            have HS2 : Hid (Sc B w2 g p { s with at_ := j } A m k A' m' k') := hide (HS.out.below (w' := w2) ⟨hb2.os, hb2.tape, hb2.output, hb2.size, hb2.block⟩)
            have HB2 : Hid (Below B w w2) := hide (below_more (belowN _ HB.out) (by exact hBw) hb2)
            obtain ⟨⟨d0, d1, _, _, _⟩, _, g1, _, _, _⟩ := HS2.out.cells
            have hgl2 := HS2.out.lt
            dsimp only at d1
            dsimp only
            refine hK.out _ _ (fun _ => by exact d1) ?_
            clear hK K hHeld hb2
            simp only [List.setIfInBounds_toArray]
            have hHeld : (fun V : World => V.cell? ⟨g, 1, none⟩ = some (.int .i64 (j : Int))) w2 := d1
            refine wpAnyM_take (i := 6) (v := ?_) rfl rfl (by kernel_rfl) (fun _ _ _ h => h) (Or.inl ⟨by rfl, ?_⟩) (by assumption) ?_
            rotate_left
            · (intro V hV; (try dsimp only at hV); go_simp; with_reducible rfl)
            try simp only [Act.put, List.setIfInBounds_toArray, List.set_cons_zero, List.set_cons_succ]
            refine wpAnyM_take (i := 7) (v := ?_) rfl rfl (by kernel_rfl) (fun _ _ _ h => h) (Or.inl ⟨by rfl, ?_⟩) (by assumption) ?_
            rotate_left
            · (intro V hV; (try dsimp only at hV); go_simp; with_reducible rfl)
            try simp only [Act.put, List.setIfInBounds_toArray, List.set_cons_zero, List.set_cons_succ]
            refine wpAnyM_take (i := 8) (v := ?_) rfl rfl (by kernel_rfl) (fun _ _ _ h => h) (Or.inl ⟨by rfl, ?_⟩) (by assumption) ?_
            rotate_left
            · (intro V hV; (try dsimp only at hV); go_simp; with_reducible rfl)
            try simp only [Act.put, List.setIfInBounds_toArray, List.set_cons_zero, List.set_cons_succ]
            refine wpAnyM_take (i := 9) (v := ?_) rfl rfl (by kernel_rfl) (fun _ _ _ h => h) (Or.inl ⟨by rfl, ?_⟩) (by assumption) ?_
            rotate_left
            · (intro V hV; (try dsimp only at hV); go_simp; with_reducible rfl)
            try simp only [Act.put, List.setIfInBounds_toArray, List.set_cons_zero, List.set_cons_succ]
            refine wpAnyM_step (i := 10) (by kernel_rfl) rfl rfl (fun K hK => ?_)
            go_simp
            refine hK.out _ _ (fun h => absurd rfl h) ?_
            refine wpAnyM_done (by kernel_rfl) ?_ _
            clear hK K hHeld
            go_wp2_with fail
            go_roundw
            case rel => exact ⟨j + q.length, f, by omega, by omega, hide (by first | exact HS2.out.at_ (j + q.length) | (have := HS2.out.at_ (j + q.length); simpa using this)), hide (HB2.out.setCell (p := ⟨g, 1, none⟩) hBg _), HE⟩
            case measure => exact meas_lt (i := j + q.length) (by first | exact (HS2.out.at_ (j + q.length)).cells.1.2.1 | (have := (HS2.out.at_ (j + q.length)).cells.1.2.1; simpa using this)) HC1.out (by omega) hlt
          · replace HR2 := hide (HR2.out.trans (if_neg h3))
            have HE : Hid (R = j) := hide HR2.out
            rw [beq_eq_false_iff_ne.2 h3] at t35
            clear HR2 HLN h3
            go_wp2_with fail
            go_quiet (fail)
            go_wp2_with fail
            go_quiet (fail)
            go_wp2_with fail
            refine (P1.out _).mono ?_
            rintro e w1 ⟨rfl, rfl⟩
            go_wp2_with fail
            refine (P2.out _).mono ?_
            rintro e w1 ⟨rfl, rfl⟩
            try rw [B2]
            go_wp2_with fail
            (try simp only [Exit.inBlock, Exit.then])
            refine bodyPost_ret (results_none rfl _ _ _) rfl ?_
            exact ⟨rfl, ⟨A, m, k, A', m', k', by rw [HE.out]; exact HS.out.drewN _⟩, belowN _ HB.out⟩
    · have hk1 : ¬ (j : Int) < (p.length : Int) := by omega
      have HE : Hid (R = j) := hide (by
        rw [HR.out]
        cases f with
        | zero => rfl
        | succ f => rw [blankL, if_pos (by omega)])
      clear HR
      go_wp2_with fail
      go_quiet (fail)
      go_wp2_with fail
      go_end0
      exact ⟨rfl, ⟨A, m, k, A', m', k', by rw [HE.out]; exact HS.out.drewN _⟩, belowN _ HB.out⟩
end Go.Proofs.YtpfcfcbljkdkhaaDoor
