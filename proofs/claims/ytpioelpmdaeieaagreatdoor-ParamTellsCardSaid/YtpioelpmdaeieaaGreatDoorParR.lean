/- The reference's Name, value, Check, Few, Same at variables. -/
import Derived.Test.YtpioelpmdaeieaaGreatDoorParC
namespace Go.Proofs.YtpioelpmdaeieaaGreatDoor
open Go.RowKit
set_option linter.unusedVariables false
theorem getD_some {p : LB} {i : Nat} (h : i < p.length) : p[i]? = some (p.getD i 0) := by simp [List.getD_eq_getElem?_getD, h]
set_option maxRecDepth 1000000 in
set_option maxHeartbeats 8000000 in
theorem refname_any (p : LB) (w : World) (hl : p.length ≤ 100000) : Calls Tryz.prog 32 #[.string ⟨p.toArray⟩] w fun e w' => e = .returned (.bool (nameP p)) ∧ Below w.heap.size w w' := by
  obtain ⟨R, hR⟩ : ∃ R, nameP p = R := ⟨_, rfl⟩
  rw [hR]
  have HR := hide hR
  clear hR
  by_cases h0 : p.length = 0
  · have HE : Hid (R = false) := hide (by rw [← HR.out, name_eq, h0]; rfl)
    obtain rfl : p = [] := List.eq_nil_of_length_eq_zero h0
    clear HR h0
    go_enter Tryz.func32, Tryz.ntmps32
    go_wp2_with fail
    go_ret
    exact ⟨ret_bool HE.out.symm, Below.refl _ _⟩
  have k0 : (p == []) = false := beq_eq_false_iff_ne.2 (fun h => h0 (by rw [h]; rfl))
  by_cases h32 : 32 < p.length
  · have HE : Hid (R = false) := hide (by rw [← HR.out, name_eq, decide_eq_false (by omega : ¬ p.length ≤ 32)]; simp)
    have k2 : (32 : Int) < (p.length : Int) := by omega
    clear HR
    go_enter Tryz.func32, Tryz.ntmps32
    go_wp2_with fail
    go_ret
    exact ⟨ret_bool HE.out.symm, Below.refl _ _⟩
  have k2 : ¬ (32 : Int) < (p.length : Int) := by omega
  go_enter Tryz.func32, Tryz.ntmps32
  go_wp2_with fail
  go_loopw [3] (fun u3 wx => ∃ i : Nat, u3 = .int .i64 i ∧ Hid (NG p i) ∧ wx = w) (fun u3 _ => p.length - (intOf u3).toNat)
  case atStart => exact ⟨0, rfl, hide ⟨Nat.zero_le _, fun j h => absurd h (by omega)⟩, rfl⟩
  case round =>
    obtain ⟨i, rfl, HNG, rfl⟩ := hrel
    by_cases hlt : i < p.length
    · have hk : (i : Int) < (p.length : Int) := by omega
      have hix := ix_l p i (p.getD i 0) (getD_some hlt)
      have HN1 := hide (ng_not hlt)
      have HN2 := hide (HNG.out.succ hlt)
      generalize p.getD i 0 = c at *
      rcases (show (c.toNat < 48) ∨ (48 ≤ c.toNat ∧ c.toNat ≤ 57) ∨ (57 < c.toNat ∧ c.toNat < 65) ∨ (65 ≤ c.toNat ∧ c.toNat ≤ 90) ∨ (90 < c.toNat ∧ c.toNat < 95) ∨ (c.toNat = 95) ∨ (c.toNat = 96) ∨ (97 ≤ c.toNat ∧ c.toNat ≤ 122) ∨ (122 < c.toNat) by omega) with hc | hc | hc | hc | hc | hc | hc | hc | hc
      · have q1 : ¬ (97 : Int) ≤ (c.toNat : Int) := by omega
        have q2 : (c.toNat : Int) ≤ 122 := by omega
        have q3 : ¬ (65 : Int) ≤ (c.toNat : Int) := by omega
        have q4 : (c.toNat : Int) ≤ 90 := by omega
        have q5 : ((c.toNat : Int) == 95) = false := beq_eq_false_iff_ne.2 (by omega)
        have q6 : (c.toNat : Int) < 48 := by omega
        have q7 : ¬ (57 : Int) < (c.toNat : Int) := by omega
        have HE : Hid (R = false) := hide (HR.out.symm.trans (HN1.out (.inl (by simp only [okc]; simp; omega))))
        by_cases hi0 : i = 0
        · subst hi0
          have hix0 : ∀ W, (Instr.index 9 (.string ⟨p.toArray⟩) (.int .i64 0)).run Tryz.prog W = .ok (.int .u8 (c.toNat : Int)) W := hix
          clear hix
          clear HR HN1 HN2 hc HNG
          go_wp2_with fail
          go_ret
          exact ⟨ret_bool HE.out.symm, Below.refl _ _⟩
        · have q8 : ((i : Int) == 0) = false := beq_eq_false_iff_ne.2 (by omega)
          clear HR HN1 HN2 hc HNG
          go_wp2_with fail
          go_ret
          exact ⟨ret_bool HE.out.symm, Below.refl _ _⟩
      · have q1 : ¬ (97 : Int) ≤ (c.toNat : Int) := by omega
        have q2 : (c.toNat : Int) ≤ 122 := by omega
        have q3 : ¬ (65 : Int) ≤ (c.toNat : Int) := by omega
        have q4 : (c.toNat : Int) ≤ 90 := by omega
        have q5 : ((c.toNat : Int) == 95) = false := beq_eq_false_iff_ne.2 (by omega)
        have q6 : ¬ (c.toNat : Int) < 48 := by omega
        have q7 : ¬ (57 : Int) < (c.toNat : Int) := by omega
        by_cases hi0 : i = 0
        · have HE : Hid (R = false) := hide (HR.out.symm.trans (HN1.out (.inr ⟨hi0, by simp only [digc]; simp; omega⟩)))
          subst hi0
          have hix0 : ∀ W, (Instr.index 9 (.string ⟨p.toArray⟩) (.int .i64 0)).run Tryz.prog W = .ok (.int .u8 (c.toNat : Int)) W := hix
          clear hix
          clear HR HN1 HN2 hc HNG
          go_wp2_with fail
          go_ret
          exact ⟨ret_bool HE.out.symm, Below.refl _ _⟩
        · have q8 : ((i : Int) == 0) = false := beq_eq_false_iff_ne.2 (by omega)
          have HNN : Hid (NG p (i + 1)) := hide (HN2.out (by simp only [okc]; simp; omega) (fun h => absurd h hi0))
          clear HN1 HN2 hc HNG
          go_wp2_with fail
          go_roundw
          case rel => exact ⟨i + 1, by go_num, HNN, by trivial⟩
          case measure => simp [intOf]; omega
      · have q1 : ¬ (97 : Int) ≤ (c.toNat : Int) := by omega
        have q2 : (c.toNat : Int) ≤ 122 := by omega
        have q3 : ¬ (65 : Int) ≤ (c.toNat : Int) := by omega
        have q4 : (c.toNat : Int) ≤ 90 := by omega
        have q5 : ((c.toNat : Int) == 95) = false := beq_eq_false_iff_ne.2 (by omega)
        have q6 : ¬ (c.toNat : Int) < 48 := by omega
        have q7 : (57 : Int) < (c.toNat : Int) := by omega
        have HE : Hid (R = false) := hide (HR.out.symm.trans (HN1.out (.inl (by simp only [okc]; simp; omega))))
        by_cases hi0 : i = 0
        · subst hi0
          have hix0 : ∀ W, (Instr.index 9 (.string ⟨p.toArray⟩) (.int .i64 0)).run Tryz.prog W = .ok (.int .u8 (c.toNat : Int)) W := hix
          clear hix
          clear HR HN1 HN2 hc HNG
          go_wp2_with fail
          go_ret
          exact ⟨ret_bool HE.out.symm, Below.refl _ _⟩
        · have q8 : ((i : Int) == 0) = false := beq_eq_false_iff_ne.2 (by omega)
          clear HR HN1 HN2 hc HNG
          go_wp2_with fail
          go_ret
          exact ⟨ret_bool HE.out.symm, Below.refl _ _⟩
      · have q1 : ¬ (97 : Int) ≤ (c.toNat : Int) := by omega
        have q2 : (c.toNat : Int) ≤ 122 := by omega
        have q3 : (65 : Int) ≤ (c.toNat : Int) := by omega
        have q4 : (c.toNat : Int) ≤ 90 := by omega
        have q5 : ((c.toNat : Int) == 95) = false := beq_eq_false_iff_ne.2 (by omega)
        have q6 : ¬ (c.toNat : Int) < 48 := by omega
        have q7 : (57 : Int) < (c.toNat : Int) := by omega
        have HNN : Hid (NG p (i + 1)) := hide (HN2.out (by simp only [okc]; simp; omega) (fun _ => by simp only [digc]; simp; omega))
        clear HN1 HN2 hc HNG
        go_wp2_with fail
        go_roundw
        case rel => exact ⟨i + 1, by go_num, HNN, by trivial⟩
        case measure => simp [intOf]; omega
      · have q1 : ¬ (97 : Int) ≤ (c.toNat : Int) := by omega
        have q2 : (c.toNat : Int) ≤ 122 := by omega
        have q3 : (65 : Int) ≤ (c.toNat : Int) := by omega
        have q4 : ¬ (c.toNat : Int) ≤ 90 := by omega
        have q5 : ((c.toNat : Int) == 95) = false := beq_eq_false_iff_ne.2 (by omega)
        have q6 : ¬ (c.toNat : Int) < 48 := by omega
        have q7 : (57 : Int) < (c.toNat : Int) := by omega
        have HE : Hid (R = false) := hide (HR.out.symm.trans (HN1.out (.inl (by simp only [okc]; simp; omega))))
        by_cases hi0 : i = 0
        · subst hi0
          have hix0 : ∀ W, (Instr.index 9 (.string ⟨p.toArray⟩) (.int .i64 0)).run Tryz.prog W = .ok (.int .u8 (c.toNat : Int)) W := hix
          clear hix
          clear HR HN1 HN2 hc HNG
          go_wp2_with fail
          go_ret
          exact ⟨ret_bool HE.out.symm, Below.refl _ _⟩
        · have q8 : ((i : Int) == 0) = false := beq_eq_false_iff_ne.2 (by omega)
          clear HR HN1 HN2 hc HNG
          go_wp2_with fail
          go_ret
          exact ⟨ret_bool HE.out.symm, Below.refl _ _⟩
      · have q1 : ¬ (97 : Int) ≤ (c.toNat : Int) := by omega
        have q2 : (c.toNat : Int) ≤ 122 := by omega
        have q3 : (65 : Int) ≤ (c.toNat : Int) := by omega
        have q4 : ¬ (c.toNat : Int) ≤ 90 := by omega
        have q5 : ((c.toNat : Int) == 95) = true := beq_iff_eq.2 (by omega)
        have q6 : ¬ (c.toNat : Int) < 48 := by omega
        have q7 : (57 : Int) < (c.toNat : Int) := by omega
        have HNN : Hid (NG p (i + 1)) := hide (HN2.out (by simp only [okc]; simp; omega) (fun _ => by simp only [digc]; simp; omega))
        clear HN1 HN2 hc HNG
        go_wp2_with fail
        go_roundw
        case rel => exact ⟨i + 1, by go_num, HNN, by trivial⟩
        case measure => simp [intOf]; omega
      · have q1 : ¬ (97 : Int) ≤ (c.toNat : Int) := by omega
        have q2 : (c.toNat : Int) ≤ 122 := by omega
        have q3 : (65 : Int) ≤ (c.toNat : Int) := by omega
        have q4 : ¬ (c.toNat : Int) ≤ 90 := by omega
        have q5 : ((c.toNat : Int) == 95) = false := beq_eq_false_iff_ne.2 (by omega)
        have q6 : ¬ (c.toNat : Int) < 48 := by omega
        have q7 : (57 : Int) < (c.toNat : Int) := by omega
        have HE : Hid (R = false) := hide (HR.out.symm.trans (HN1.out (.inl (by simp only [okc]; simp; omega))))
        by_cases hi0 : i = 0
        · subst hi0
          have hix0 : ∀ W, (Instr.index 9 (.string ⟨p.toArray⟩) (.int .i64 0)).run Tryz.prog W = .ok (.int .u8 (c.toNat : Int)) W := hix
          clear hix
          clear HR HN1 HN2 hc HNG
          go_wp2_with fail
          go_ret
          exact ⟨ret_bool HE.out.symm, Below.refl _ _⟩
        · have q8 : ((i : Int) == 0) = false := beq_eq_false_iff_ne.2 (by omega)
          clear HR HN1 HN2 hc HNG
          go_wp2_with fail
          go_ret
          exact ⟨ret_bool HE.out.symm, Below.refl _ _⟩
      · have q1 : (97 : Int) ≤ (c.toNat : Int) := by omega
        have q2 : (c.toNat : Int) ≤ 122 := by omega
        have q3 : (65 : Int) ≤ (c.toNat : Int) := by omega
        have q4 : ¬ (c.toNat : Int) ≤ 90 := by omega
        have q5 : ((c.toNat : Int) == 95) = false := beq_eq_false_iff_ne.2 (by omega)
        have q6 : ¬ (c.toNat : Int) < 48 := by omega
        have q7 : (57 : Int) < (c.toNat : Int) := by omega
        have HNN : Hid (NG p (i + 1)) := hide (HN2.out (by simp only [okc]; simp; omega) (fun _ => by simp only [digc]; simp; omega))
        clear HN1 HN2 hc HNG
        go_wp2_with fail
        go_roundw
        case rel => exact ⟨i + 1, by go_num, HNN, by trivial⟩
        case measure => simp [intOf]; omega
      · have q1 : (97 : Int) ≤ (c.toNat : Int) := by omega
        have q2 : ¬ (c.toNat : Int) ≤ 122 := by omega
        have q3 : (65 : Int) ≤ (c.toNat : Int) := by omega
        have q4 : ¬ (c.toNat : Int) ≤ 90 := by omega
        have q5 : ((c.toNat : Int) == 95) = false := beq_eq_false_iff_ne.2 (by omega)
        have q6 : ¬ (c.toNat : Int) < 48 := by omega
        have q7 : (57 : Int) < (c.toNat : Int) := by omega
        have HE : Hid (R = false) := hide (HR.out.symm.trans (HN1.out (.inl (by simp only [okc]; simp; omega))))
        by_cases hi0 : i = 0
        · subst hi0
          have hix0 : ∀ W, (Instr.index 9 (.string ⟨p.toArray⟩) (.int .i64 0)).run Tryz.prog W = .ok (.int .u8 (c.toNat : Int)) W := hix
          clear hix
          clear HR HN1 HN2 hc HNG
          go_wp2_with fail
          go_ret
          exact ⟨ret_bool HE.out.symm, Below.refl _ _⟩
        · have q8 : ((i : Int) == 0) = false := beq_eq_false_iff_ne.2 (by omega)
          clear HR HN1 HN2 hc HNG
          go_wp2_with fail
          go_ret
          exact ⟨ret_bool HE.out.symm, Below.refl _ _⟩
    · have hk : ¬ (i : Int) < (p.length : Int) := by omega
      obtain rfl : i = p.length := by have := HNG.out.1; omega
      have HE : Hid (R = true) := hide (HR.out.symm.trans (ng_all HNG.out h0 (by omega)))
      clear HR HNG
      go_wp2_with fail
      go_ret
      exact ⟨ret_bool HE.out.symm, Below.refl _ _⟩
def valueP (v : LB) : Bool := decide (v.length ≤ 1024) && noZero v
theorem valid_eq (x : Vr) : validP x = (nameP x.name && valueP x.value) := by
  unfold validP valueP noZero
  rw [Bool.and_assoc]
set_option maxHeartbeats 2000000 in
theorem value_any (v : LB) (w : World) : Calls Tryz.prog 33 #[.string ⟨v.toArray⟩] w fun e w' => e = .returned (.bool (valueP v)) ∧ w = w' := by
  obtain ⟨R, hR⟩ : ∃ R, valueP v = R := ⟨_, rfl⟩
  rw [hR]
  have HR := hide hR
  clear hR
  by_cases h1 : 1024 < v.length
  · have k1 : (1024 : Int) < (v.length : Int) := by omega
    have HE : Hid (R = false) := hide (by rw [← HR.out]; unfold valueP; rw [decide_eq_false (by omega)]; rfl)
    go_enter Tryz.func33, Tryz.ntmps33
    go_wp2_with fail
    go_ret
    exact ⟨ret_bool HE.out.symm, rfl⟩
  have k1 : ¬ (1024 : Int) < (v.length : Int) := by omega
  go_enter Tryz.func33, Tryz.ntmps33
  go_wp2_with fail
  go_loop [3] (fun u3 => ∃ i : Nat, i ≤ v.length ∧ u3 = .int .i64 (i : Int) ∧ Hid (∀ c ∈ v.take i, c ≠ 0)) (fun u3 => v.length - (intOf u3).toNat)
  case atStart => exact ⟨0, Nat.zero_le _, rfl, hide (fun c hc => by simp at hc)⟩
  case round =>
    obtain ⟨i, hi, rfl, HZ⟩ := hrel
    by_cases hlt : i < v.length
    · obtain ⟨c, hc⟩ : ∃ c, v[i]? = some c := ⟨_, List.getElem?_eq_getElem hlt⟩
      have hix := ix_l v i c hc
      have HC := hide hc
      have hlt' : (i : Int) < (v.length : Int) := by omega
      clear hc
      by_cases h0 : c.toNat = 0
      · have k0 : ((c.toNat : Int) == 0) = true := by rw [beq_iff_eq]; omega
        have HE : Hid (R = false) := hide (by
          rw [← HR.out]
          unfold valueP
          have hz : noZero v = false := by
            rw [← Bool.not_eq_true, noZero_iff]
            intro h
            exact h c (List.mem_of_getElem? HC.out) (UInt8.toNat_inj.1 h0)
          rw [hz, Bool.and_false])
        clear h0
        go_wp2_with fail
        go_ret
        exact ⟨ret_bool HE.out.symm, rfl⟩
      · have k0 : ((c.toNat : Int) == 0) = false := beq_eq_false_iff_ne.2 (by omega)
        have HZ2 : Hid (∀ c ∈ v.take (i + 1), c ≠ 0) := hide (fun x hx => by
          obtain ⟨g1, g2⟩ := List.getElem?_eq_some_iff.1 HC.out
          rw [List.take_succ_eq_append_getElem g1, g2, List.mem_append, List.mem_singleton] at hx
          rcases hx with hx | rfl
          · exact HZ.out x hx
          · rintro rfl; exact h0 rfl)
        clear h0
        go_wp2_with fail
        go_round
        case rel => exact ⟨i + 1, by omega, by go_num, HZ2⟩
        case measure => simp [intOf]; omega
    · have hlt' : ¬ (i : Int) < (v.length : Int) := by omega
      obtain rfl : i = v.length := by omega
      have HE : Hid (R = true) := hide (by
        rw [← HR.out]
        unfold valueP
        rw [(noZero_iff v).2 (by have := HZ.out; rwa [List.take_length] at this), decide_eq_true (by omega)]; rfl)
      go_wp2_with fail
      go_ret
      exact ⟨ret_bool HE.out.symm, rfl⟩
end Go.Proofs.YtpioelpmdaeieaaGreatDoor
