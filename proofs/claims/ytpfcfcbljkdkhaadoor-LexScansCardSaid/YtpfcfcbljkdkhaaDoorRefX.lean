/- The contract of the reference's doc. -/
import Derived.Test.YtpfcfcbljkdkhaaDoorRefW
namespace Go.Proofs.YtpfcfcbljkdkhaaDoor
open Go.RowKit
set_option linter.unusedVariables false
theorem lineP_take : ∀ l : LB, lineP l = l.take (lineP l).length
  | [] => rfl
  | c :: r => by
    unfold lineP
    split
    · rfl
    · rw [List.length_cons, List.take_succ_cons, ← lineP_take r]
def docV (p : LB) (i0 : Nat) : Option (Nat × Nat) → Value
  | none => .tuple #[.string ⟨#[]⟩, .int .i64 0, .bool false]
  | some r => .tuple #[.string ⟨((p.drop i0).take (r.1 - i0)).toArray⟩, .int .i64 (r.2 : Int), .bool true]
set_option maxRecDepth 1000000 in
set_option maxHeartbeats 8000000 in
theorem refdoc_any (p del : LB) (hl : p.length ≤ 100000) (i0 : Nat) (h0 : i0 ≤ p.length) (w : World) : Calls Tryd.prog 36 #[.string ⟨p.toArray⟩, .int .i64 (i0 : Int), .string ⟨del.toArray⟩] w fun e w' => e = .returned (docV p i0 (docL p del (p.length + 1) i0)) ∧ w' = w := by
  obtain ⟨R, hR⟩ : ∃ R, docL p del (p.length + 1) i0 = R := ⟨_, rfl⟩
  have HR : Hid (R = docL p del (p.length + 1) (min i0 p.length)) := hide (by rw [Nat.min_eq_left h0, hR])
  rw [hR]
  clear hR
  go_enter Tryd.func36, Tryd.ntmps36
  go_wp2_with fail
  go_loopw [1] (fun u1 wx => ∃ i f : Nat, u1 = .int .i64 i ∧ i0 ≤ i ∧ i ≤ p.length + 1 ∧ p.length + 1 ≤ f + i ∧ Hid (R = docL p del f (min i p.length)) ∧ wx = w) (fun u1 _ => p.length + 1 - (intOf u1).toNat)
  case atStart => exact ⟨i0, p.length + 1, rfl, Nat.le_refl _, by omega, by omega, HR, rfl⟩
  case round =>
    clear HR
    obtain ⟨i, f, rfl, hi0, hil, hf, HR, rfl⟩ := hrel
    by_cases hlt : i < p.length
    · have hk : (i : Int) < (p.length : Int) := by omega
      obtain ⟨f, rfl⟩ : ∃ g, f = g + 1 := ⟨f - 1, by omega⟩
      have hR := HR.out
      rw [Nat.min_eq_left (by omega)] at hR
      unfold docL at hR
      rw [if_neg (by omega)] at hR
      have HR := hide hR
      have hle := lineP_len (p.drop i)
      rw [List.length_drop] at hle
      obtain ⟨E, hE⟩ : ∃ E, i + (lineP (p.drop i)).length = E := ⟨_, rfl⟩
      have HEI : Hid (i + (lineP (p.drop i)).length = E) := hide hE
      have HE : Hid (E = i + (lineP (p.drop i)).length) := hide hE.symm
      have hEi : i ≤ E ∧ E ≤ p.length := by omega
      clear hR hle hE
      go_wp2_with fail
      go_loopw [10] (fun u10 wx => ∃ j : Nat, u10 = .int .i64 j ∧ i ≤ j ∧ j ≤ E ∧ Hid (E = j + (lineP (p.drop j)).length) ∧ wx = wr) (fun u10 _ => p.length - (intOf u10).toNat)
      case atStart => exact ⟨i, rfl, Nat.le_refl _, by omega, HE, rfl⟩
      case round =>
        clear HE
        obtain ⟨j, rfl, hij, hjE, HE, rfl⟩ := hrel
        have hls := line_step p j
        have HB2 := hide hjE
        by_cases hj : j < p.length
        · have kj : (j : Int) < (p.length : Int) := by omega
          rw [if_neg (by omega)] at hls
          have hjx := ix_l p j (p.getD j 0) (getD_some hj)
          have b10 := u8_beq (p.getD j 0) 10
          change (((p.getD j 0).toNat : Int) == 10) = _ at b10
          generalize p.getD j 0 = z at *
          by_cases z10 : z = 10
          · rw [if_pos z10] at hls
            have t1 : ((z.toNat : Int) != 10) = false := by rw [bne, b10, beq_iff_eq.2 z10]; rfl
            have hEj : E = j := by rw [HE.out, hls]; rfl
            clear z10 b10
            clear hls HE
            subst hEj
            have hlen : (lineP (p.drop i)).length = E - i := by have := HEI.out; omega
            have hline : (p.drop i).take (E - i) = lineP (p.drop i) := by rw [← hlen]; exact (lineP_take _).symm
            have hs1 := sl_two p i E (i : Int) (E : Int) rfl rfl (by omega) (by omega)
            rw [hline] at hs1
            have hs2 := sl_two p i0 i (i0 : Int) (i : Int) rfl rfl (by omega) (by omega)
            have hR := HR.out
            rw [HEI.out] at hR
            have HLN := hide hline
            obtain ⟨LN, hLN⟩ : ∃ LN, lineP (p.drop i) = LN := ⟨_, rfl⟩
            rw [hLN] at hR hs1
            have HR2 := hide hR
            clear hR hline hLN HLN hlen
            obtain ⟨D, hD⟩ : ∃ D, (p.drop i0).take (i - i0) = D := ⟨_, rfl⟩
            rw [hD] at hs2
            have HD := hide hD
            clear hD
            by_cases hq : LN = del
            · have q1 : (LN == del) = true := beq_iff_eq.2 hq
              by_cases hm : E + 1 ≤ p.length
              · have m1 : (E : Int) + 1 ≤ (p.length : Int) := by omega
                have HX : Hid (R = some (i, E + 1)) := hide (by rw [HR2.out, if_pos hq, Nat.min_eq_left (by omega)])
                clear HR2 HR hq HEI HB2
                go_wp2_with fail
                refine bodyPost_ret (v := docV p i0 R) (by simp only [results, Tryd.results36, docV, HX.out, HD.out]; first | done | (go_simp; done) | (go_simp; omega) | omega) rfl ?_
                exact ⟨rfl, rfl⟩
              · have m1 : (p.length : Int) ≤ (E : Int) + 1 := by omega
                have HX : Hid (R = some (i, p.length)) := hide (by rw [HR2.out, if_pos hq, Nat.min_eq_right (by omega)])
                clear HR2 HR hq HEI HB2
                go_wp2_with fail
                refine bodyPost_ret (v := docV p i0 R) (by simp only [results, Tryd.results36, docV, HX.out, HD.out]; first | done | (go_simp; done) | (go_simp; omega) | omega) rfl ?_
                exact ⟨rfl, rfl⟩
            · have q1 : (LN == del) = false := beq_eq_false_iff_ne.2 hq
              have HX : Hid (R = docL p del f (min (E + 1) p.length)) := hide (by rw [HR2.out, if_neg hq])
              clear HR2 HR hq HEI HB2
              go_wp2_with fail
              go_roundw
              case rel => exact ⟨E + 1, f, by go_num, by omega, by omega, by omega, HX, by trivial⟩
              case measure => simp [intOf]; omega
          · rw [if_neg z10] at hls
            have HF : Hid (E = j + 1 + (lineP (p.drop (j + 1))).length) := hide (by rw [HE.out, hls]; omega)
            have hF : j + 1 ≤ E := by rw [HF.out]; omega
            have t1 : ((z.toNat : Int) != 10) = true := by rw [bne, b10, beq_eq_false_iff_ne.2 z10]; rfl
            clear hls z10 b10 HE
            go_wp2_with fail
            go_roundw
            case rel => exact ⟨j + 1, by go_num, by omega, hF, HF, by trivial⟩
            case measure => simp [intOf]; omega
        · have kj : ¬ (j : Int) < (p.length : Int) := by omega
          rw [if_pos (by omega)] at hls
          have hEj : E = j := by rw [HE.out, hls]; rfl
          clear hls HE
          subst hEj
          have hlen : (lineP (p.drop i)).length = E - i := by have := HEI.out; omega
          have hline : (p.drop i).take (E - i) = lineP (p.drop i) := by rw [← hlen]; exact (lineP_take _).symm
          have hs1 := sl_two p i E (i : Int) (E : Int) rfl rfl (by omega) (by omega)
          rw [hline] at hs1
          have hs2 := sl_two p i0 i (i0 : Int) (i : Int) rfl rfl (by omega) (by omega)
          have hR := HR.out
          rw [HEI.out] at hR
          have HLN := hide hline
          obtain ⟨LN, hLN⟩ : ∃ LN, lineP (p.drop i) = LN := ⟨_, rfl⟩
          rw [hLN] at hR hs1
          have HR2 := hide hR
          clear hR hline hLN HLN hlen
          obtain ⟨D, hD⟩ : ∃ D, (p.drop i0).take (i - i0) = D := ⟨_, rfl⟩
          rw [hD] at hs2
          have HD := hide hD
          clear hD
          by_cases hq : LN = del
          · have q1 : (LN == del) = true := beq_iff_eq.2 hq
            by_cases hm : E + 1 ≤ p.length
            · have m1 : (E : Int) + 1 ≤ (p.length : Int) := by omega
              have HX : Hid (R = some (i, E + 1)) := hide (by rw [HR2.out, if_pos hq, Nat.min_eq_left (by omega)])
              clear HR2 HR hq HEI HB2
              go_wp2_with fail
              refine bodyPost_ret (v := docV p i0 R) (by simp only [results, Tryd.results36, docV, HX.out, HD.out]; first | done | (go_simp; done) | (go_simp; omega) | omega) rfl ?_
              exact ⟨rfl, rfl⟩
            · have m1 : (p.length : Int) ≤ (E : Int) + 1 := by omega
              have HX : Hid (R = some (i, p.length)) := hide (by rw [HR2.out, if_pos hq, Nat.min_eq_right (by omega)])
              clear HR2 HR hq HEI HB2
              go_wp2_with fail
              refine bodyPost_ret (v := docV p i0 R) (by simp only [results, Tryd.results36, docV, HX.out, HD.out]; first | done | (go_simp; done) | (go_simp; omega) | omega) rfl ?_
              exact ⟨rfl, rfl⟩
          · have q1 : (LN == del) = false := beq_eq_false_iff_ne.2 hq
            have HX : Hid (R = docL p del f (min (E + 1) p.length)) := hide (by rw [HR2.out, if_neg hq])
            clear HR2 HR hq HEI HB2
            go_wp2_with fail
            go_roundw
            case rel => exact ⟨E + 1, f, by go_num, by omega, by omega, by omega, HX, by trivial⟩
            case measure => simp [intOf]; omega
    · have hk : ¬ (i : Int) < (p.length : Int) := by omega
      have HX : Hid (R = none) := hide (by
        rw [HR.out, Nat.min_eq_right (by omega)]
        cases f with
        | zero => rfl
        | succ f => unfold docL; rw [if_pos (Nat.le_refl _)])
      clear HR
      go_wp2_with fail
      refine bodyPost_ret (v := docV p i0 R) (by simp only [results, Tryd.results36, docV, HX.out]; go_simp) rfl ?_
      exact ⟨rfl, rfl⟩
end Go.Proofs.YtpfcfcbljkdkhaaDoor
