/- The contract of the reference's Name. -/
import Derived.Test.YtpfcfcbljkdkhaaDoorLexQ
namespace Go.Proofs.YtpfcfcbljkdkhaaDoor
open Go.RowKit
set_option linter.unusedVariables false
set_option maxRecDepth 1000000 in
set_option maxHeartbeats 8000000 in
theorem refname_any (p : LB) (w : World) (hl : p.length ≤ 100000) : Calls Tryd.prog 15 #[.string ⟨p.toArray⟩] w fun e w' => e = .returned (.bool (nameP p)) ∧ Below w.heap.size w w' := by
  obtain ⟨R, hR⟩ : ∃ R, nameP p = R := ⟨_, rfl⟩
  rw [hR]
  have HR := hide hR
  clear hR
  by_cases h0 : p.length = 0
  · have HE : Hid (R = false) := hide (by rw [← HR.out, name_eq, h0]; rfl)
    obtain rfl : p = [] := List.eq_nil_of_length_eq_zero h0
    clear HR h0
    go_enter Tryd.func15, Tryd.ntmps15
    go_wp2_with fail
    go_ret
    exact ⟨ret_bool HE.out.symm, Below.refl _ _⟩
  have k0 : (p == []) = false := beq_eq_false_iff_ne.2 (fun h => h0 (by rw [h]; rfl))
  by_cases h32 : 32 < p.length
  · have HE : Hid (R = false) := hide (by rw [← HR.out, name_eq, decide_eq_false (by omega : ¬ p.length ≤ 32)]; simp)
    have k2 : (32 : Int) < (p.length : Int) := by omega
    clear HR
    go_enter Tryd.func15, Tryd.ntmps15
    go_wp2_with fail
    go_ret
    exact ⟨ret_bool HE.out.symm, Below.refl _ _⟩
  have k2 : ¬ (32 : Int) < (p.length : Int) := by omega
  go_enter Tryd.func15, Tryd.ntmps15
  go_wp2_with fail
  go_loopw [3] (fun u3 wx => ∃ i : Nat, u3 = .int .i64 i ∧ Hid (NG p i) ∧ wx = w) (fun u3 _ => p.length - (intOf u3).toNat)
  case atStart => exact ⟨0, rfl, hide ⟨Nat.zero_le _, fun j h => absurd h (by omega)⟩, rfl⟩
  case round =>
    obtain ⟨i, rfl, HNG, rfl⟩ := hrel
    by_cases hlt : i < p.length
    · have hk : (i : Int) < (p.length : Int) := by omega
      have hix := ix_l p i (p.getD i 0) (getD_some hlt)
      have HN1 := hide (ng_not hlt)
      have HN2 := hide (HNG.out.succ hlt)
      generalize p.getD i 0 = c at *
      rcases (show (c.toNat < 48) ∨ (48 ≤ c.toNat ∧ c.toNat ≤ 57) ∨ (57 < c.toNat ∧ c.toNat < 65) ∨ (65 ≤ c.toNat ∧ c.toNat ≤ 90) ∨ (90 < c.toNat ∧ c.toNat < 95) ∨ (c.toNat = 95) ∨ (c.toNat = 96) ∨ (97 ≤ c.toNat ∧ c.toNat ≤ 122) ∨ (122 < c.toNat) by omega) with hc | hc | hc | hc | hc | hc | hc | hc | hc
      · have q1 : ¬ (97 : Int) ≤ (c.toNat : Int) := by omega
        have q2 : (c.toNat : Int) ≤ 122 := by omega
        have q3 : ¬ (65 : Int) ≤ (c.toNat : Int) := by omega
        have q4 : (c.toNat : Int) ≤ 90 := by omega
        have q5 : ((c.toNat : Int) == 95) = false := beq_eq_false_iff_ne.2 (by omega)
        have q6 : (c.toNat : Int) < 48 := by omega
        have q7 : ¬ (57 : Int) < (c.toNat : Int) := by omega
        have HE : Hid (R = false) := hide (HR.out.symm.trans (HN1.out (.inl (by simp only [okc]; simp; omega))))
        by_cases hi0 : i = 0
        · subst hi0
          have hix0 : ∀ W, (Instr.index 9 (.string ⟨p.toArray⟩) (.int .i64 0)).run Tryd.prog W = .ok (.int .u8 (c.toNat : Int)) W := hix
          clear hix
          clear HR HN1 HN2 hc HNG
          go_wp2_with fail
          go_ret
          exact ⟨ret_bool HE.out.symm, Below.refl _ _⟩
        · have q8 : ((i : Int) == 0) = false := beq_eq_false_iff_ne.2 (by omega)
          clear HR HN1 HN2 hc HNG
          go_wp2_with fail
          go_ret
          exact ⟨ret_bool HE.out.symm, Below.refl _ _⟩
      · have q1 : ¬ (97 : Int) ≤ (c.toNat : Int) := by omega
        have q2 : (c.toNat : Int) ≤ 122 := by omega
        have q3 : ¬ (65 : Int) ≤ (c.toNat : Int) := by omega
        have q4 : (c.toNat : Int) ≤ 90 := by omega
        have q5 : ((c.toNat : Int) == 95) = false := beq_eq_false_iff_ne.2 (by omega)
        have q6 : ¬ (c.toNat : Int) < 48 := by omega
        have q7 : ¬ (57 : Int) < (c.toNat : Int) := by omega
        by_cases hi0 : i = 0
        · have HE : Hid (R = false) := hide (HR.out.symm.trans (HN1.out (.inr ⟨hi0, by simp only [digc]; simp; omega⟩)))
          subst hi0
          have hix0 : ∀ W, (Instr.index 9 (.string ⟨p.toArray⟩) (.int .i64 0)).run Tryd.prog W = .ok (.int .u8 (c.toNat : Int)) W := hix
          clear hix
          clear HR HN1 HN2 hc HNG
          go_wp2_with fail
          go_ret
          exact ⟨ret_bool HE.out.symm, Below.refl _ _⟩
        · have q8 : ((i : Int) == 0) = false := beq_eq_false_iff_ne.2 (by omega)
          have HNN : Hid (NG p (i + 1)) := hide (HN2.out (by simp only [okc]; simp; omega) (fun h => absurd h hi0))
          clear HN1 HN2 hc HNG
          go_wp2_with fail
          go_roundw
          case rel => exact ⟨i + 1, by go_num, HNN, by trivial⟩
          case measure => simp [intOf]; omega
      · have q1 : ¬ (97 : Int) ≤ (c.toNat : Int) := by omega
        have q2 : (c.toNat : Int) ≤ 122 := by omega
        have q3 : ¬ (65 : Int) ≤ (c.toNat : Int) := by omega
        have q4 : (c.toNat : Int) ≤ 90 := by omega
        have q5 : ((c.toNat : Int) == 95) = false := beq_eq_false_iff_ne.2 (by omega)
        have q6 : ¬ (c.toNat : Int) < 48 := by omega
        have q7 : (57 : Int) < (c.toNat : Int) := by omega
        have HE : Hid (R = false) := hide (HR.out.symm.trans (HN1.out (.inl (by simp only [okc]; simp; omega))))
        by_cases hi0 : i = 0
        · subst hi0
          have hix0 : ∀ W, (Instr.index 9 (.string ⟨p.toArray⟩) (.int .i64 0)).run Tryd.prog W = .ok (.int .u8 (c.toNat : Int)) W := hix
          clear hix
          clear HR HN1 HN2 hc HNG
          go_wp2_with fail
          go_ret
          exact ⟨ret_bool HE.out.symm, Below.refl _ _⟩
        · have q8 : ((i : Int) == 0) = false := beq_eq_false_iff_ne.2 (by omega)
          clear HR HN1 HN2 hc HNG
          go_wp2_with fail
          go_ret
          exact ⟨ret_bool HE.out.symm, Below.refl _ _⟩
      · have q1 : ¬ (97 : Int) ≤ (c.toNat : Int) := by omega
        have q2 : (c.toNat : Int) ≤ 122 := by omega
        have q3 : (65 : Int) ≤ (c.toNat : Int) := by omega
        have q4 : (c.toNat : Int) ≤ 90 := by omega
        have q5 : ((c.toNat : Int) == 95) = false := beq_eq_false_iff_ne.2 (by omega)
        have q6 : ¬ (c.toNat : Int) < 48 := by omega
        have q7 : (57 : Int) < (c.toNat : Int) := by omega
        have HNN : Hid (NG p (i + 1)) := hide (HN2.out (by simp only [okc]; simp; omega) (fun _ => by simp only [digc]; simp; omega))
        clear HN1 HN2 hc HNG
        go_wp2_with fail
        go_roundw
        case rel => exact ⟨i + 1, by go_num, HNN, by trivial⟩
        case measure => simp [intOf]; omega
      · have q1 : ¬ (97 : Int) ≤ (c.toNat : Int) := by omega
        have q2 : (c.toNat : Int) ≤ 122 := by omega
        have q3 : (65 : Int) ≤ (c.toNat : Int) := by omega
        have q4 : ¬ (c.toNat : Int) ≤ 90 := by omega
        have q5 : ((c.toNat : Int) == 95) = false := beq_eq_false_iff_ne.2 (by omega)
        have q6 : ¬ (c.toNat : Int) < 48 := by omega
        have q7 : (57 : Int) < (c.toNat : Int) := by omega
        have HE : Hid (R = false) := hide (HR.out.symm.trans (HN1.out (.inl (by simp only [okc]; simp; omega))))
        by_cases hi0 : i = 0
        · subst hi0
          have hix0 : ∀ W, (Instr.index 9 (.string ⟨p.toArray⟩) (.int .i64 0)).run Tryd.prog W = .ok (.int .u8 (c.toNat : Int)) W := hix
          clear hix
          clear HR HN1 HN2 hc HNG
          go_wp2_with fail
          go_ret
          exact ⟨ret_bool HE.out.symm, Below.refl _ _⟩
        · have q8 : ((i : Int) == 0) = false := beq_eq_false_iff_ne.2 (by omega)
          clear HR HN1 HN2 hc HNG
          go_wp2_with fail
          go_ret
          exact ⟨ret_bool HE.out.symm, Below.refl _ _⟩
      · have q1 : ¬ (97 : Int) ≤ (c.toNat : Int) := by omega
        have q2 : (c.toNat : Int) ≤ 122 := by omega
        have q3 : (65 : Int) ≤ (c.toNat : Int) := by omega
        have q4 : ¬ (c.toNat : Int) ≤ 90 := by omega
        have q5 : ((c.toNat : Int) == 95) = true := beq_iff_eq.2 (by omega)
        have q6 : ¬ (c.toNat : Int) < 48 := by omega
        have q7 : (57 : Int) < (c.toNat : Int) := by omega
        have HNN : Hid (NG p (i + 1)) := hide (HN2.out (by simp only [okc]; simp; omega) (fun _ => by simp only [digc]; simp; omega))
        clear HN1 HN2 hc HNG
        go_wp2_with fail
        go_roundw
        case rel => exact ⟨i + 1, by go_num, HNN, by trivial⟩
        case measure => simp [intOf]; omega
      · have q1 : ¬ (97 : Int) ≤ (c.toNat : Int) := by omega
        have q2 : (c.toNat : Int) ≤ 122 := by omega
        have q3 : (65 : Int) ≤ (c.toNat : Int) := by omega
        have q4 : ¬ (c.toNat : Int) ≤ 90 := by omega
        have q5 : ((c.toNat : Int) == 95) = false := beq_eq_false_iff_ne.2 (by omega)
        have q6 : ¬ (c.toNat : Int) < 48 := by omega
        have q7 : (57 : Int) < (c.toNat : Int) := by omega
        have HE : Hid (R = false) := hide (HR.out.symm.trans (HN1.out (.inl (by simp only [okc]; simp; omega))))
        by_cases hi0 : i = 0
        · subst hi0
          have hix0 : ∀ W, (Instr.index 9 (.string ⟨p.toArray⟩) (.int .i64 0)).run Tryd.prog W = .ok (.int .u8 (c.toNat : Int)) W := hix
          clear hix
          clear HR HN1 HN2 hc HNG
          go_wp2_with fail
          go_ret
          exact ⟨ret_bool HE.out.symm, Below.refl _ _⟩
        · have q8 : ((i : Int) == 0) = false := beq_eq_false_iff_ne.2 (by omega)
          clear HR HN1 HN2 hc HNG
          go_wp2_with fail
          go_ret
          exact ⟨ret_bool HE.out.symm, Below.refl _ _⟩
      · have q1 : (97 : Int) ≤ (c.toNat : Int) := by omega
        have q2 : (c.toNat : Int) ≤ 122 := by omega
        have q3 : (65 : Int) ≤ (c.toNat : Int) := by omega
        have q4 : ¬ (c.toNat : Int) ≤ 90 := by omega
        have q5 : ((c.toNat : Int) == 95) = false := beq_eq_false_iff_ne.2 (by omega)
        have q6 : ¬ (c.toNat : Int) < 48 := by omega
        have q7 : (57 : Int) < (c.toNat : Int) := by omega
        have HNN : Hid (NG p (i + 1)) := hide (HN2.out (by simp only [okc]; simp; omega) (fun _ => by simp only [digc]; simp; omega))
        clear HN1 HN2 hc HNG
        go_wp2_with fail
        go_roundw
        case rel => exact ⟨i + 1, by go_num, HNN, by trivial⟩
        case measure => simp [intOf]; omega
      · have q1 : (97 : Int) ≤ (c.toNat : Int) := by omega
        have q2 : ¬ (c.toNat : Int) ≤ 122 := by omega
        have q3 : (65 : Int) ≤ (c.toNat : Int) := by omega
        have q4 : ¬ (c.toNat : Int) ≤ 90 := by omega
        have q5 : ((c.toNat : Int) == 95) = false := beq_eq_false_iff_ne.2 (by omega)
        have q6 : ¬ (c.toNat : Int) < 48 := by omega
        have q7 : (57 : Int) < (c.toNat : Int) := by omega
        have HE : Hid (R = false) := hide (HR.out.symm.trans (HN1.out (.inl (by simp only [okc]; simp; omega))))
        by_cases hi0 : i = 0
        · subst hi0
          have hix0 : ∀ W, (Instr.index 9 (.string ⟨p.toArray⟩) (.int .i64 0)).run Tryd.prog W = .ok (.int .u8 (c.toNat : Int)) W := hix
          clear hix
          clear HR HN1 HN2 hc HNG
          go_wp2_with fail
          go_ret
          exact ⟨ret_bool HE.out.symm, Below.refl _ _⟩
        · have q8 : ((i : Int) == 0) = false := beq_eq_false_iff_ne.2 (by omega)
          clear HR HN1 HN2 hc HNG
          go_wp2_with fail
          go_ret
          exact ⟨ret_bool HE.out.symm, Below.refl _ _⟩
    · have hk : ¬ (i : Int) < (p.length : Int) := by omega
      obtain rfl : i = p.length := by have := HNG.out.1; omega
      have HE : Hid (R = true) := hide (HR.out.symm.trans (ng_all HNG.out h0 (by omega)))
      clear HR HNG
      go_wp2_with fail
      go_ret
      exact ⟨ret_bool HE.out.symm, Below.refl _ _⟩
end Go.Proofs.YtpfcfcbljkdkhaaDoor
