/- The contract of the reference's gap. -/
import Derived.Test.YtpfcfcbljkdkhaaDoorRefU
namespace Go.Proofs.YtpfcfcbljkdkhaaDoor
open Go.RowKit
set_option linter.unusedVariables false
set_option maxRecDepth 1000000 in
set_option maxHeartbeats 8000000 in
theorem gap_any (p : LB) (hl : p.length ≤ 100000) (i0 : Nat) (h0 : i0 ≤ p.length) (w : World) : Calls Tryd.prog 20 #[.string ⟨p.toArray⟩, .int .i64 (i0 : Int)] w fun e w' => e = .returned (.int .i64 ((blankP p i0 : Nat) : Int)) ∧ w' = w := by
  have hR0 : blankP p i0 = blankL p (p.length + 1) i0 := rfl
  obtain ⟨R, hR⟩ : ∃ R, blankP p i0 = R := ⟨_, rfl⟩
  rw [hR] at hR0 ⊢
  have HR := hide hR0
  clear hR hR0
  go_enter Tryd.func20, Tryd.ntmps20
  go_wp2_with fail
  go_loopw [1] (fun u1 wx => ∃ i f : Nat, u1 = .int .i64 i ∧ i ≤ p.length ∧ p.length + 1 ≤ f + i ∧ Hid (R = blankL p f i) ∧ wx = w) (fun u1 _ => p.length - (intOf u1).toNat)
  case atStart => exact ⟨i0, p.length + 1, rfl, h0, by omega, HR, rfl⟩
  case round =>
    clear HR
    obtain ⟨i, f, rfl, hil, hf, HR, rfl⟩ := hrel
    obtain ⟨f, rfl⟩ : ∃ g, f = g + 1 := ⟨f - 1, by omega⟩
    have hR := HR.out
    unfold blankL at hR
    by_cases hlt : i < p.length
    · have hk : (i : Int) < (p.length : Int) := by omega
      rw [if_neg (by omega)] at hR
      have hix := ix_l p i (p.getD i 0) (getD_some hlt)
      have hix1 : i + 1 < p.length → ∀ W, (Instr.index 9 (.string ⟨p.toArray⟩) (.int .i64 ((i : Int) + 1))).run Tryd.prog W = .ok (.int .u8 ((p.getD (i + 1) 0).toNat : Int)) W := fun h => by
        have := ix_l p (i + 1) (p.getD (i + 1) 0) (getD_some h)
        rw [show ((i + 1 : Nat) : Int) = (i : Int) + 1 by omega] at this
        exact this
      have hd0 : ¬ i + 1 < p.length → p.getD (i + 1) 0 = 0 := fun h => by rw [List.getD_eq_getElem?_getD, List.getElem?_eq_none (by omega)]; rfl
      have kw1 : IntKind.i64.wrap ((i : Int) + 1) = (i : Int) + 1 := by simp [IntKind.wrap, IntKind.bits, IntKind.signed]; omega
      have kw2 : IntKind.i64.wrap ((i : Int) + 2) = (i : Int) + 2 := by simp [IntKind.wrap, IntKind.bits, IntKind.signed]; omega
      have hls := line_step p i
      rw [if_neg (by omega)] at hls
      have t32 := u8_beq (p.getD i 0) 32
      change (((p.getD i 0).toNat : Int) == 32) = _ at t32
      have t9 := u8_beq (p.getD i 0) 9
      change (((p.getD i 0).toNat : Int) == 9) = _ at t9
      have t92 := u8_beq (p.getD i 0) 92
      change (((p.getD i 0).toNat : Int) == 92) = _ at t92
      have t35 := u8_beq (p.getD i 0) 35
      change (((p.getD i 0).toNat : Int) == 35) = _ at t35
      have d10 := u8_beq (p.getD (i + 1) 0) 10
      change (((p.getD (i + 1) 0).toNat : Int) == 10) = _ at d10
      generalize hc : p.getD i 0 = c at *
      generalize p.getD (i + 1) 0 = d at *
      have HD0 := hide hd0
      have HI1 := hide hix1
      have HLS := hide hls
      have HC := hide hc
      have HR := hide hR
      clear hd0 hix1 hls hR hc
      by_cases h32 : c = 32
      · rw [beq_iff_eq.2 h32] at t32
        have HX : Hid (R = blankL p f (i + 1)) := hide (by rw [HR.out, if_pos (.inl h32)])
        clear HR HD0 HI1 HLS t9 t92 t35 d10 h32 HC
        go_wp2_with fail
        go_roundw
        case rel => exact ⟨i + 1, f, by go_num, by omega, by omega, HX, by trivial⟩
        case measure => simp [intOf]; omega
      rw [beq_eq_false_iff_ne.2 h32] at t32
      by_cases h9 : c = 9
      · rw [beq_iff_eq.2 h9] at t9
        have HX : Hid (R = blankL p f (i + 1)) := hide (by rw [HR.out, if_pos (.inr h9)])
        clear HR HD0 HI1 HLS t92 t35 d10 h32 h9 HC
        go_wp2_with fail
        go_roundw
        case rel => exact ⟨i + 1, f, by go_num, by omega, by omega, HX, by trivial⟩
        case measure => simp [intOf]; omega
      rw [beq_eq_false_iff_ne.2 h9] at t9
      have HR := hide (HR.out.trans (if_neg (fun h => h.elim h32 h9)))
      by_cases h92 : c = 92
      · rw [beq_iff_eq.2 h92] at t92
        have t35' : ((c.toNat : Int) == 35) = false := by rw [t35, h92]; rfl
        have h35 : ¬ c = 35 := by rw [h92]; decide
        by_cases hi1 : i + 1 < p.length
        · have k3 : (i : Int) + 1 < (p.length : Int) := by omega
          have hix1 := HI1.out hi1
          by_cases e10 : d = 10
          · rw [beq_iff_eq.2 e10] at d10
            have HX : Hid (R = blankL p f (i + 2)) := hide (by rw [HR.out, if_pos ⟨h92, e10⟩])
            clear HR HD0 HI1 HLS t35 h32 h9 h92 e10 h35 HC
            go_wp2_with fail
            go_roundw
            case rel => exact ⟨i + 2, f, by go_num, by omega, by omega, HX, by trivial⟩
            case measure => simp [intOf]; omega
          · rw [beq_eq_false_iff_ne.2 e10] at d10
            have HX : Hid (R = i) := hide (by rw [HR.out, if_neg (fun h => e10 h.2), if_neg h35])
            clear HR HD0 HI1 HLS t35 h32 h9 h92 e10 h35 HC
            go_wp2_with fail
            go_ret
            exact ⟨by rw [HX.out]; first | done | rfl, rfl⟩
        · have k3 : ¬ (i : Int) + 1 < (p.length : Int) := by omega
          have hdz := HD0.out hi1
          have HX : Hid (R = i) := hide (by rw [HR.out, if_neg (fun h => by rw [hdz] at h; exact absurd h.2 (by decide)), if_neg h35])
          clear HR HD0 HI1 HLS t35 h32 h9 h92 h35 hdz d10 HC
          go_wp2_with fail
          go_ret
          exact ⟨by rw [HX.out]; first | done | rfl, rfl⟩
      rw [beq_eq_false_iff_ne.2 h92] at t92
      have HR := hide (HR.out.trans (if_neg (fun h => h92 h.1)))
      by_cases h35 : c = 35
      · rw [beq_iff_eq.2 h35] at t35
        have HX : Hid (R = blankL p f (i + (lineP (p.drop i)).length)) := hide (by rw [HR.out, if_pos h35])
        have hls := HLS.out
        rw [if_neg (by rw [h35]; decide)] at hls
        have hle := lineP_len (p.drop i)
        rw [List.length_drop] at hle
        obtain ⟨E, hE⟩ : ∃ E, i + (lineP (p.drop i)).length = E := ⟨_, rfl⟩
        have HE : Hid (E = i + (lineP (p.drop i)).length) := hide hE.symm
        have hEi : i < E ∧ E ≤ p.length := by omega
        rw [hE] at HX
        have HCI : Hid (p.getD i 0 = 35) := hide (HC.out.trans h35)
        clear HR HD0 HI1 HLS d10 h32 h9 h92 h35 HC hls hle hE
        go_wp2_with fail
        go_loopw [1] (fun u1 wx => ∃ j : Nat, u1 = .int .i64 j ∧ i ≤ j ∧ j ≤ E ∧ Hid (E = j + (lineP (p.drop j)).length) ∧ wx = wr) (fun u1 _ => p.length - (intOf u1).toNat)
        case atStart => exact ⟨i, rfl, Nat.le_refl _, by omega, HE, rfl⟩
        case round =>
          clear HE hix
          obtain ⟨j, rfl, hij, hjE, HE, rfl⟩ := hrel
          have hls := line_step p j
          by_cases hj : j < p.length
          · have kj : (j : Int) < (p.length : Int) := by omega
            rw [if_neg (by omega)] at hls
            have hjx := ix_l p j (p.getD j 0) (getD_some hj)
            have b10 := u8_beq (p.getD j 0) 10
            change (((p.getD j 0).toNat : Int) == 10) = _ at b10
            generalize p.getD j 0 = z at *
            by_cases z10 : z = 10
            · rw [if_pos z10] at hls
              have hEj : E = j := by rw [HE.out, hls]; rfl
              rw [hEj] at HX hEi
              have t1 : ((z.toNat : Int) != 10) = false := by rw [bne, b10, beq_iff_eq.2 z10]; rfl
              clear hls z10 b10 HE hEj
              go_wp2_with fail
              go_roundw
              case rel => exact ⟨j, f, rfl, by omega, by omega, HX, by trivial⟩
              case measure => simp [intOf]; omega
            · rw [if_neg z10] at hls
              have HF : Hid (E = j + 1 + (lineP (p.drop (j + 1))).length) := hide (by rw [HE.out, hls]; omega)
              have hF : j + 1 ≤ E := by rw [HF.out]; omega
              have t1 : ((z.toNat : Int) != 10) = true := by rw [bne, b10, beq_eq_false_iff_ne.2 z10]; rfl
              clear hls z10 b10 HE
              go_wp2_with fail
              go_roundw
              case rel => exact ⟨j + 1, by go_num, by omega, hF, HF, by trivial⟩
              case measure => simp [intOf]; omega
          · have kj : ¬ (j : Int) < (p.length : Int) := by omega
            rw [if_pos (by omega)] at hls
            have hEj : E = j := by rw [HE.out, hls]; rfl
            rw [hEj] at HX hEi
            clear hls HE hEj
            go_wp2_with fail
            go_roundw
            case rel => exact ⟨j, f, rfl, by omega, by omega, HX, by trivial⟩
            case measure => simp [intOf]; omega
      rw [beq_eq_false_iff_ne.2 h35] at t35
      have HX : Hid (R = i) := hide (by rw [HR.out, if_neg h35])
      clear HR HD0 HI1 HLS d10 h32 h9 h92 h35 HC
      go_wp2_with fail
      go_ret
      exact ⟨by rw [HX.out]; first | done | rfl, rfl⟩
    · have hk : ¬ (i : Int) < (p.length : Int) := by omega
      rw [if_pos (by omega)] at hR
      have HX : Hid (R = i) := hide hR
      clear hR HR
      go_wp2_with fail
      go_ret
      exact ⟨by rw [HX.out]; first | done | rfl, rfl⟩
end Go.Proofs.YtpfcfcbljkdkhaaDoor
