/- The contracts of the reference's Skip and until, which call one another. -/
import Derived.Test.YtpfcfcbljkdkhaaDoorRefN
import Derived.Test.YtpfcfcbljkdkhaaDoorRefP
namespace Go.Proofs.YtpfcfcbljkdkhaaDoor
open Go.RowKit
set_option linter.unusedVariables false
def SkipC (p : LB) (i : Nat) : Prop := ∀ w, Calls Tryd.prog 10 #[.string ⟨p.toArray⟩, .int .i64 (i : Int)] w fun e w' => e = .returned (.tuple #[.int .i64 (((skipP p i).1 : Nat) : Int), .bool (skipP p i).2]) ∧ w' = w
def UntilC (p : LB) (j : Nat) (jj o : Int) (ob : UInt8) (q : Bool) : Prop := ∀ w, Calls Tryd.prog 26 #[.string ⟨p.toArray⟩, .int .i64 jj, .int .u8 o, .bool q] w fun e w' => e = .returned (.tuple #[.int .i64 (((sk p j [ob]).1 : Nat) : Int), .bool (sk p j [ob]).2]) ∧ w' = w
set_option maxRecDepth 1000000 in
set_option maxHeartbeats 8000000 in
theorem until_n (p : LB) (hl : p.length ≤ 100000) (j : Nat) (ob : UInt8) (ho : Clo ob) (hne : ob ≠ 34) (hj : j ≤ p.length) (hS : ∀ i, j ≤ i → i < p.length → SkipC p i) : UntilC p j (j : Int) (ob.toNat : Int) ob false := by
  intro w
  obtain ⟨R, hR⟩ : ∃ R, sk p j [ob] = R := ⟨_, rfl⟩
  rw [hR]
  have HR := hide hR.symm
  clear hR
  go_enter Tryd.func26, Tryd.ntmps26
  go_wp2_with fail
  go_loopw [1] (fun u1 wx => ∃ i : Nat, u1 = .int .i64 i ∧ j ≤ i ∧ i ≤ p.length ∧ Hid (R = sk p i [ob]) ∧ wx = w) (fun u1 _ => p.length - (intOf u1).toNat)
  case atStart => exact ⟨j, rfl, Nat.le_refl _, hj, HR, rfl⟩
  case round =>
    clear HR
    obtain ⟨i, rfl, hji, hil, HR, rfl⟩ := hrel
    by_cases hlt : i < p.length
    · have hk : (i : Int) < (p.length : Int) := by omega
      have hix := ix_l p i (p.getD i 0) (getD_some hlt)
      have XS := hide (hS i hji hlt)
      have tc := u8_beq (p.getD i 0) ob
      have HC := hide (sk_close p i ob ho hlt)
      have HE := hide (sk_elem p i ob ho hlt)
      have hf := skipP_facts p i
      generalize p.getD i 0 = c at *
      by_cases hc : c = ob
      · have t1 : ((c.toNat : Int) != (ob.toNat : Int)) = false := by rw [bne, tc, beq_iff_eq.2 hc]; rfl
        have HX : Hid (R = (i + 1, true)) := hide (HR.out.trans (HC.out hc))
        have k3 : (i : Int) < (p.length : Int) := hk
        clear HC HE HR XS tc hc hf
        go_wp2_with fail
        go_ret2
        exact ⟨by rw [HX.out]; rfl, rfl⟩
      · have t1 : ((c.toNat : Int) != (ob.toNat : Int)) = true := by rw [bne, tc, beq_eq_false_iff_ne.2 hc]; rfl
        have HX := hide (HR.out.trans (HE.out hc (fun h => absurd h hne)))
        obtain ⟨S, hS2⟩ : ∃ S, skipP p i = S := ⟨_, rfl⟩
        unfold SkipC at XS
        rw [hS2] at XS HX hf
        obtain ⟨s1, s2⟩ := S
        dsimp only at XS HX hf
        clear HC HE HR tc hc hS2
        cases s2 with
        | false =>
          have HY : Hid (R = (s1, false)) := hide (HX.out.trans (if_pos rfl))
          clear HX
          go_wp2_with fail
          refine (XS.out _).mono ?_
          rintro e w2 ⟨rfl, rfl⟩
          go_wp2_with fail
          go_ret2
          exact ⟨by rw [HY.out]; rfl, rfl⟩
        | true =>
          have HY : Hid (R = sk p s1 [ob]) := hide (HX.out.trans (if_neg (by decide)))
          have h1 := hf.1
          have h2 := hf.2 rfl
          clear HX hf
          go_wp2_with fail
          refine (XS.out _).mono ?_
          rintro e w2 ⟨rfl, rfl⟩
          go_wp2_with fail
          go_roundw
          case rel => exact ⟨s1, rfl, by omega, h1, HY, by trivial⟩
          case measure => simp [intOf]; omega
    · have hk : ¬ (i : Int) < (p.length : Int) := by omega
      have hk2 : (p.length : Int) ≤ (i : Int) := by omega
      have HX : Hid (R = (p.length, false)) := hide (HR.out.trans (sk_end p i [ob] (by omega)))
      clear HR
      go_wp2_with fail
      go_ret2
      exact ⟨by rw [HX.out]; rfl, rfl⟩
set_option maxRecDepth 1000000 in
set_option maxHeartbeats 8000000 in
theorem until_q (p : LB) (hl : p.length ≤ 100000) (j : Nat) (hj : j ≤ p.length) (hS : ∀ i, j ≤ i → i < p.length → SkipC p i) : UntilC p j (j : Int) 34 34 true := by
  intro w
  obtain ⟨R, hR⟩ : ∃ R, sk p j [34] = R := ⟨_, rfl⟩
  rw [hR]
  have HR := hide hR.symm
  clear hR
  go_enter Tryd.func26, Tryd.ntmps26
  go_wp2_with fail
  go_loopw [1] (fun u1 wx => ∃ i : Nat, u1 = .int .i64 i ∧ j ≤ i ∧ i ≤ p.length ∧ Hid (R = sk p i [34]) ∧ wx = w) (fun u1 _ => p.length - (intOf u1).toNat)
  case atStart => exact ⟨j, rfl, Nat.le_refl _, hj, HR, rfl⟩
  case round =>
    clear HR
    obtain ⟨i, rfl, hji, hil, HR, rfl⟩ := hrel
    by_cases hlt : i < p.length
    · have hk : (i : Int) < (p.length : Int) := by omega
      have hix := ix_l p i (p.getD i 0) (getD_some hlt)
      have XS := hide (hS i hji hlt)
      have t34 := u8_beq (p.getD i 0) 34
      change (((p.getD i 0).toNat : Int) == 34) = _ at t34
      have t39 := u8_beq (p.getD i 0) 39
      change (((p.getD i 0).toNat : Int) == 39) = _ at t39
      have t40 := u8_beq (p.getD i 0) 40
      change (((p.getD i 0).toNat : Int) == 40) = _ at t40
      have HC := hide (sk_close p i 34 (.inl rfl) hlt)
      have HE := hide (sk_elem p i 34 (.inl rfl) hlt)
      have HB := hide (sk_byte p i hlt)
      have hf := skipP_facts p i
      generalize p.getD i 0 = c at *
      by_cases hc : c = 34
      · have t1 : ((c.toNat : Int) != 34) = false := by rw [bne, t34, beq_iff_eq.2 hc]; rfl
        have HX : Hid (R = (i + 1, true)) := hide (HR.out.trans (HC.out hc))
        clear HC HE HR HB XS t34 t39 t40 hc hf
        go_wp2_with fail
        go_ret2
        exact ⟨by rw [HX.out]; rfl, rfl⟩
      have t1 : ((c.toNat : Int) != 34) = true := by rw [bne, t34, beq_eq_false_iff_ne.2 hc]; rfl
      by_cases h39 : c = 39
      · have HX := hide (HR.out.trans (HB.out (.inl h39)))
        rw [beq_iff_eq.2 h39] at t39
        clear HC HE HR HB XS t34 t40 hc hf h39
        go_wp2_with fail
        go_roundw
        case rel => exact ⟨i + 1, by go_num, by omega, by omega, HX, by trivial⟩
        case measure => simp [intOf]; omega
      rw [beq_eq_false_iff_ne.2 h39] at t39
      by_cases h40 : c = 40
      · have HX := hide (HR.out.trans (HB.out (.inr h40)))
        rw [beq_iff_eq.2 h40] at t40
        clear HC HE HR HB XS t34 hc hf h39 h40
        go_wp2_with fail
        go_roundw
        case rel => exact ⟨i + 1, by go_num, by omega, by omega, HX, by trivial⟩
        case measure => simp [intOf]; omega
      rw [beq_eq_false_iff_ne.2 h40] at t40
      have HX := hide (HR.out.trans (HE.out hc (fun _ => ⟨h39, h40⟩)))
      obtain ⟨S, hS2⟩ : ∃ S, skipP p i = S := ⟨_, rfl⟩
      unfold SkipC at XS
      rw [hS2] at XS HX hf
      obtain ⟨s1, s2⟩ := S
      dsimp only at XS HX hf
      clear HC HE HR HB t34 hc hS2 h39 h40
      cases s2 with
      | false =>
        have HY : Hid (R = (s1, false)) := hide (HX.out.trans (if_pos rfl))
        clear HX
        go_wp2_with fail
        refine (XS.out _).mono ?_
        rintro e w2 ⟨rfl, rfl⟩
        go_wp2_with fail
        go_ret2
        exact ⟨by rw [HY.out]; rfl, rfl⟩
      | true =>
        have HY : Hid (R = sk p s1 [34]) := hide (HX.out.trans (if_neg (by decide)))
        have h1 := hf.1
        have h2 := hf.2 rfl
        clear HX hf
        go_wp2_with fail
        refine (XS.out _).mono ?_
        rintro e w2 ⟨rfl, rfl⟩
        go_wp2_with fail
        go_roundw
        case rel => exact ⟨s1, rfl, by omega, h1, HY, by trivial⟩
        case measure => simp [intOf]; omega
    · have hk : ¬ (i : Int) < (p.length : Int) := by omega
      have hk2 : (p.length : Int) ≤ (i : Int) := by omega
      have HX : Hid (R = (p.length, false)) := hide (HR.out.trans (sk_end p i [34] (by omega)))
      clear HR
      go_wp2_with fail
      go_ret2
      exact ⟨by rw [HX.out]; rfl, rfl⟩
end Go.Proofs.YtpfcfcbljkdkhaaDoor
