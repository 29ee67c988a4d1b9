/- The contract of Length. -/
import Derived.Test.YtpioelpmdaeieaaGreatDoorVarD
namespace Go.Proofs.YtpioelpmdaeieaaGreatDoor
open Go.RowKit
set_option linter.unusedVariables false
def startC (c : UInt8) : Bool := decide (c.toNat < 128) || decide (191 < c.toNat)
def lengthP (s : LB) : Nat := (s.filter startC).length
theorem lengthP_snoc (s : LB) (c : UInt8) : lengthP (s ++ [c]) = lengthP s + (if startC c = true then 1 else 0) := by
  unfold lengthP
  rw [List.filter_append, List.length_append]
  congr 1
  simp only [List.filter_cons, List.filter_nil]
  split <;> rfl
theorem lengthP_le (s : LB) : lengthP s ≤ s.length := List.length_filter_le _ _
set_option maxHeartbeats 4000000 in
theorem length_any (s : LB) (hs : s.length ≤ 1000000) (w : World) : Calls Tryz.prog 27 #[.string ⟨s.toArray⟩] w fun e w' => e = .returned (.int .i64 (lengthP s : Int)) ∧ w = w' := by
  go_enter Tryz.func27, Tryz.ntmps27
  go_wp2_with fail
  go_loop [3, 7] (fun u3 u7 => ∃ i m : Nat, i ≤ s.length ∧ m ≤ i ∧ u3 = .int .i64 (m : Int) ∧ u7 = .int .i64 (i : Int) ∧ Hid (m = lengthP (s.take i))) (fun _ u7 => s.length - (intOf u7).toNat)
  case atStart => exact ⟨0, 0, Nat.zero_le _, Nat.le_refl _, rfl, rfl, hide rfl⟩
  case round =>
    obtain ⟨i, m, hi, hmi, rfl, rfl, HM⟩ := hrel
    by_cases hlt : i < s.length
    · obtain ⟨c, hc⟩ : ∃ c, s[i]? = some c := ⟨_, List.getElem?_eq_getElem hlt⟩
      have hix := ix_l s i c hc
      have hlt' : (i : Int) < (s.length : Int) := by omega
      have HT : Hid (lengthP (s.take (i + 1)) = m + (if startC c = true then 1 else 0)) := hide (by
        obtain ⟨h1, h2⟩ := List.getElem?_eq_some_iff.1 hc
        rw [List.take_succ_eq_append_getElem h1, h2, lengthP_snoc, HM.out])
      clear hc
      by_cases h1 : c.toNat < 128
      · have k1 : (c.toNat : Int) < 128 := by omega
        have HM2 : Hid (m + 1 = lengthP (s.take (i + 1))) := hide (by rw [HT.out]; unfold startC; simp [h1])
        clear HT h1
        go_wp2_with fail
        go_round
        case rel => exact ⟨i + 1, m + 1, by omega, by omega, by go_num, by go_num, HM2⟩
        case measure => simp [intOf]; omega
      · have k1 : ¬ (c.toNat : Int) < 128 := by omega
        by_cases h2 : 191 < c.toNat
        · have k2 : (191 : Int) < (c.toNat : Int) := by omega
          have HM2 : Hid (m + 1 = lengthP (s.take (i + 1))) := hide (by rw [HT.out]; unfold startC; simp [h2])
          clear HT h1 h2
          go_wp2_with fail
          go_round
          case rel => exact ⟨i + 1, m + 1, by omega, by omega, by go_num, by go_num, HM2⟩
          case measure => simp [intOf]; omega
        · have k2 : ¬ (191 : Int) < (c.toNat : Int) := by omega
          have HM2 : Hid (m = lengthP (s.take (i + 1))) := hide (by rw [HT.out]; unfold startC; simp [h1, h2])
          clear HT h1 h2
          go_wp2_with fail
          go_round
          case rel => exact ⟨i + 1, m, by omega, by omega, rfl, by go_num, HM2⟩
          case measure => simp [intOf]; omega
    · have hlt' : ¬ (i : Int) < (s.length : Int) := by omega
      have HE : Hid (m = lengthP s) := hide (by
        have := HM.out
        rwa [List.take_of_length_le (by omega)] at this)
      clear HM
      go_wp2_with fail
      go_ret
      exact ⟨by rw [HE.out]; rfl, rfl⟩
end Go.Proofs.YtpioelpmdaeieaaGreatDoor
