/- The document's answer on settings (layer 11): letter, Name, Cut, Check, Get. -/
import Derived.Test.YtaibmfahfkoahaaGreatEnvQ
namespace Go.Proofs.YtaibmfahfkoahaaGreat
open Go.RowKit
set_option linter.unusedVariables false
def lettP (c : UInt8) (first : Bool) : Bool := (letc c || c.toNat == 95) || (!first && digc c)
set_option maxHeartbeats 4000000 in
theorem rlett_any (c : UInt8) (first : Bool) (w : World) : Calls Tryz.prog 38 #[.int .u8 (c.toNat : Int), .bool first] w fun e w' => e = .returned (.bool (lettP c first)) ∧ w = w' := by
  obtain ⟨R, hR⟩ : ∃ R, lettP c first = R := ⟨_, rfl⟩
  rw [hR]
  have HR : Hid ((((decide (97 ≤ c.toNat) && decide (c.toNat ≤ 122)) || (decide (65 ≤ c.toNat) && decide (c.toNat ≤ 90)) || c.toNat == 95) || (!first && (decide (48 ≤ c.toNat) && decide (c.toNat ≤ 57)))) = R) := hide (by rw [← hR]; rfl)
  clear hR
  obtain ⟨a, ha⟩ : ∃ a, c.toNat = a := ⟨_, rfl⟩
  rw [ha] at HR ⊢
  clear ha
  by_cases h95 : a = 95
  · subst h95
    have HE : Hid (R = true) := hide (by rw [← HR.out]; simp)
    go_enter Tryz.func38, Tryz.ntmps38
    go_wp2_with fail
    go_ret
    exact ⟨ret_bool HE.out.symm, rfl⟩
  have k95 : ((a : Int) == 95) = false := beq_eq_false_iff_ne.2 (by omega)
  by_cases h1 : 97 ≤ a
  · have k1 : (97 : Int) ≤ (a : Int) := by omega
    by_cases h2 : a ≤ 122
    · have k2 : (a : Int) ≤ 122 := by omega
      have HE : Hid (R = true) := hide (by rw [← HR.out]; simp [h1, h2])
      go_enter Tryz.func38, Tryz.ntmps38
      go_wp2_with fail
      go_ret
      exact ⟨ret_bool HE.out.symm, rfl⟩
    · have k2 : ¬ (a : Int) ≤ 122 := by omega
      have k3 : (65 : Int) ≤ (a : Int) := by omega
      have k4 : ¬ (a : Int) ≤ 90 := by omega
      have k5 : (48 : Int) ≤ (a : Int) := by omega
      have k6 : ¬ (a : Int) ≤ 57 := by omega
      have HE : Hid (R = false) := hide (by rw [← HR.out]; simp; omega)
      cases first with
      | true =>
        go_enter Tryz.func38, Tryz.ntmps38
        go_wp2_with fail
        go_ret
        exact ⟨ret_bool HE.out.symm, rfl⟩
      | false =>
        go_enter Tryz.func38, Tryz.ntmps38
        go_wp2_with fail
        go_ret
        exact ⟨ret_bool HE.out.symm, rfl⟩
  · have k1 : ¬ (97 : Int) ≤ (a : Int) := by omega
    by_cases h3 : 65 ≤ a
    · have k3 : (65 : Int) ≤ (a : Int) := by omega
      by_cases h4 : a ≤ 90
      · have k4 : (a : Int) ≤ 90 := by omega
        have HE : Hid (R = true) := hide (by rw [← HR.out]; simp [h3, h4])
        go_enter Tryz.func38, Tryz.ntmps38
        go_wp2_with fail
        go_ret
        exact ⟨ret_bool HE.out.symm, rfl⟩
      · have k4 : ¬ (a : Int) ≤ 90 := by omega
        have k5 : (48 : Int) ≤ (a : Int) := by omega
        have k6 : ¬ (a : Int) ≤ 57 := by omega
        have HE : Hid (R = false) := hide (by rw [← HR.out]; simp; omega)
        cases first with
        | true =>
          go_enter Tryz.func38, Tryz.ntmps38
          go_wp2_with fail
          go_ret
          exact ⟨ret_bool HE.out.symm, rfl⟩
        | false =>
          go_enter Tryz.func38, Tryz.ntmps38
          go_wp2_with fail
          go_ret
          exact ⟨ret_bool HE.out.symm, rfl⟩
    · have k3 : ¬ (65 : Int) ≤ (a : Int) := by omega
      cases first with
      | true =>
        have HE : Hid (R = false) := hide (by rw [← HR.out]; simp; omega)
        go_enter Tryz.func38, Tryz.ntmps38
        go_wp2_with fail
        go_ret
        exact ⟨ret_bool HE.out.symm, rfl⟩
      | false =>
        by_cases h5 : 48 ≤ a
        · have k5 : (48 : Int) ≤ (a : Int) := by omega
          by_cases h6 : a ≤ 57
          · have k6 : (a : Int) ≤ 57 := by omega
            have HE : Hid (R = true) := hide (by rw [← HR.out]; simp [h5, h6])
            go_enter Tryz.func38, Tryz.ntmps38
            go_wp2_with fail
            go_ret
            exact ⟨ret_bool HE.out.symm, rfl⟩
          · have k6 : ¬ (a : Int) ≤ 57 := by omega
            have HE : Hid (R = false) := hide (by rw [← HR.out]; simp; omega)
            go_enter Tryz.func38, Tryz.ntmps38
            go_wp2_with fail
            go_ret
            exact ⟨ret_bool HE.out.symm, rfl⟩
        · have k5 : ¬ (48 : Int) ≤ (a : Int) := by omega
          have HE : Hid (R = false) := hide (by rw [← HR.out]; simp; omega)
          go_enter Tryz.func38, Tryz.ntmps38
          go_wp2_with fail
          go_ret
          exact ⟨ret_bool HE.out.symm, rfl⟩
set_option maxRecDepth 100000 in
set_option maxHeartbeats 4000000 in
theorem rename_any (p : LB) (w : World) : Calls Tryz.prog 18 #[.string ⟨p.toArray⟩] w fun e w' => e = .returned (.bool (nameP p)) ∧ w = w' := by
  obtain ⟨R, hR⟩ : ∃ R, nameP p = R := ⟨_, rfl⟩
  rw [hR]
  have HR := hide hR
  clear hR
  by_cases h0 : p.length = 0
  · have HE : Hid (R = false) := hide (by rw [← HR.out, name_eq, h0]; rfl)
    obtain rfl : p = [] := List.eq_nil_of_length_eq_zero h0
    clear HR h0
    go_enter Tryz.func18, Tryz.ntmps18
    go_wp2_with fail
    go_ret
    exact ⟨ret_bool HE.out.symm, rfl⟩
  have k0 : (p == []) = false := beq_eq_false_iff_ne.2 (fun h => h0 (by rw [h]; rfl))
  by_cases h32 : 32 < p.length
  · have HE : Hid (R = false) := hide (by rw [← HR.out, name_eq, decide_eq_false (by omega : ¬ p.length ≤ 32)]; simp)
    have k2 : (32 : Int) < (p.length : Int) := by omega
    clear HR
    go_enter Tryz.func18, Tryz.ntmps18
    go_wp2_with fail
    go_ret
    exact ⟨ret_bool HE.out.symm, rfl⟩
  have k2 : ¬ (32 : Int) < (p.length : Int) := by omega
  go_enter Tryz.func18, Tryz.ntmps18
  go_wp2_with fail
  go_loop [3] (fun u3 => ∃ i : Nat, i ≤ p.length ∧ u3 = .int .i64 (i : Int) ∧ Hid (NG p i)) (fun u3 => p.length - (intOf u3).toNat)
  case atStart => exact ⟨0, Nat.zero_le _, rfl, hide ⟨Nat.zero_le _, fun j h => absurd h (by omega)⟩⟩
  case round =>
    obtain ⟨i, hi, rfl, HN⟩ := hrel
    by_cases hlt : i < p.length
    · obtain ⟨c, hc⟩ : ∃ c, p[i]? = some c := ⟨_, List.getElem?_eq_getElem hlt⟩
      have hix := ix_l p i c hc
      have HG : Hid (p.getD i 0 = c) := hide (by simp [List.getD_eq_getElem?_getD, hc])
      have hlt' : (i : Int) < (p.length : Int) := by omega
      have HL : Hid (∀ f, lettP c f = ((okc c && !digc c) || (!f && digc c))) := hide (fun f => by
        unfold lettP
        rw [okc_eq]
        have hd : digc c = true → letc c = false ∧ (c.toNat == 95) = false := by
          unfold digc letc
          intro h
          simp only [Bool.and_eq_true, decide_eq_true_eq] at h
          refine ⟨?_, beq_eq_false_iff_ne.2 (by omega)⟩
          simp; omega
        cases hdd : digc c with
        | false => simp
        | true => obtain ⟨e1, e2⟩ := hd hdd; rw [e1, e2]; simp)
      have GO : Hid (okc c = true → (i = 0 → digc c = false) → NG p (i + 1)) := hide (fun h h2 => NG.succ HN.out hlt (by rw [HG.out]; exact h) (fun e => by rw [HG.out]; exact h2 e))
      have OUT : Hid (okc c = false ∨ (i = 0 ∧ digc c = true) → R = false) := hide (fun h => by rw [← HR.out]; exact ng_not hlt (by rw [HG.out]; exact h))
      clear hc
      by_cases hz : i = 0
      · have kz : ((i : Int) == 0) = true := by rw [beq_iff_eq]; omega
        have HZ := hide hz
        clear hz
        have XL := hide (fun W => rlett_any c true W)
        obtain ⟨q, hq⟩ : ∃ q, lettP c true = q := ⟨_, rfl⟩
        rw [hq] at XL
        have HQ : Hid ((okc c && !digc c) = q) := hide (by rw [← hq, HL.out]; simp)
        clear hq
        cases q with
        | true =>
          have HN2 : Hid (NG p (i + 1)) := by
            have hq := HQ.out
            cases h1 : okc c with
            | false => rw [h1] at hq; cases hq
            | true =>
              cases h2 : digc c with
              | true => rw [h1, h2] at hq; cases hq
              | false => exact hide (GO.out h1 (fun _ => h2))
          clear GO OUT HQ HL
          go_wp2_with fail
          refine (XL.out _).mono ?_
          rintro e w1 ⟨rfl, rfl⟩
          go_wp2_with fail
          go_round
          case rel => exact ⟨i + 1, by omega, by go_num, HN2⟩
          case measure => simp [intOf]; omega
        | false =>
          have HE : Hid (R = false) := by
            have hq := HQ.out
            cases h1 : okc c with
            | false => exact hide (OUT.out (.inl h1))
            | true =>
              cases h2 : digc c with
              | true => exact hide (OUT.out (.inr ⟨HZ.out, h2⟩))
              | false => rw [h1, h2] at hq; cases hq
          clear GO OUT HQ HL
          go_wp2_with fail
          refine (XL.out _).mono ?_
          rintro e w1 ⟨rfl, rfl⟩
          go_wp2_with fail
          go_ret
          exact ⟨ret_bool HE.out.symm, rfl⟩
      · have XL := hide (fun W => rlett_any c false W)
        have kz : ((i : Int) == 0) = false := beq_eq_false_iff_ne.2 (by omega)
        obtain ⟨q, hq⟩ : ∃ q, lettP c false = q := ⟨_, rfl⟩
        rw [hq] at XL
        have HQ : Hid (okc c = q) := hide (by
          rw [← hq, HL.out]
          cases hd : digc c with
          | false => simp
          | true => rw [okc_eq, hd]; simp)
        clear hq
        cases q with
        | true =>
          have HN2 := hide (GO.out HQ.out (fun h => absurd h hz))
          clear GO OUT HQ HL
          go_wp2_with fail
          refine (XL.out _).mono ?_
          rintro e w1 ⟨rfl, rfl⟩
          go_wp2_with fail
          go_round
          case rel => exact ⟨i + 1, by omega, by go_num, HN2⟩
          case measure => simp [intOf]; omega
        | false =>
          have HE := hide (OUT.out (.inl HQ.out))
          clear GO OUT HQ HL
          go_wp2_with fail
          refine (XL.out _).mono ?_
          rintro e w1 ⟨rfl, rfl⟩
          go_wp2_with fail
          go_ret
          exact ⟨ret_bool HE.out.symm, rfl⟩
    · have hlt' : ¬ (i : Int) < (p.length : Int) := by omega
      obtain rfl : i = p.length := by omega
      have HE : Hid (R = true) := hide (by rw [← HR.out]; exact ng_all HN.out h0 (by omega))
      go_wp2_with fail
      go_ret
      exact ⟨ret_bool HE.out.symm, rfl⟩
end Go.Proofs.YtaibmfahfkoahaaGreat
