/- Contracts of arith.isDigit, isLetter, digit, run. -/
import Derived.Test.YtglgldmofibedaaGreatDoorArA
import Derived.Deep.RegionHeld3
import Derived.Deep.DeepCutAuto
namespace Go.Proofs.YtglgldmofibedaaGreatDoor
open Go.RowKit
set_option linter.unusedVariables false
theorem ret_b {e : Ending} {a b : Bool} (h : e = .returned (.bool a)) (h1 : a = b) : e = .returned (.bool b) := by rw [h, h1]
theorem ret_i {e : Ending} {a b : Int} (h : e = .returned (.int .i64 a)) (h1 : a = b) : e = .returned (.int .i64 b) := by rw [h, h1]
theorem isDigit_any (c : UInt8) (w : World) : Calls Tryz.prog 35 #[.int .u8 c.toNat] w fun e w' => e = .returned (.bool (isD c)) ∧ w = w' := by
  have hc := UInt8.toNat_lt c
  have H : Hid (isD c = (decide (48 ≤ c.toNat) && decide (c.toNat ≤ 57))) := hide rfl
  generalize isD c = r at *
  generalize c.toNat = n at *
  go_enter Tryz.func35, Tryz.ntmps35
  go_wp2_with fail
  all_goals
    go_ret
    refine ⟨?_, rfl⟩
    rw [H.out]
    refine ret_b rfl ?_
    rw [Bool.eq_iff_iff]
    simp <;> omega
theorem isLetter_any (c : UInt8) (w : World) : Calls Tryz.prog 36 #[.int .u8 c.toNat] w fun e w' => e = .returned (.bool (isL c)) ∧ w = w' := by
  have hc := UInt8.toNat_lt c
  have hq : (c == 95) = decide (c.toNat = 95) := by
    by_cases h : c = 95
    · subst h; rfl
    · rw [beq_eq_false_iff_ne.2 h]
      symm; rw [decide_eq_false_iff_not]
      intro h2; exact h (UInt8.toNat_inj.1 h2)
  have H : Hid (isL c = ((decide (97 ≤ c.toNat) && decide (c.toNat ≤ 122)) || (decide (65 ≤ c.toNat) && decide (c.toNat ≤ 90)) || decide (c.toNat = 95))) := hide (by unfold isL; rw [hq])
  clear hq
  generalize isL c = r at *
  generalize c.toNat = n at *
  go_enter Tryz.func36, Tryz.ntmps36
  go_wp2_with fail
  all_goals
    go_ret
    refine ⟨?_, rfl⟩
    rw [H.out]
    refine ret_b rfl ?_
    rw [Bool.eq_iff_iff]
    simp <;> omega
theorem digit_any (c : UInt8) (w : World) : Calls Tryz.prog 32 #[.int .u8 c.toNat] w fun e w' => e = .returned (.int .i64 (hexV c)) ∧ w = w' := by
  have hc := UInt8.toNat_lt c
  have hd : isD c = (decide (48 ≤ c.toNat) && decide (c.toNat ≤ 57)) := rfl
  have H : Hid (hexV c = if isD c then (c.toNat : Int) - 48 else if 97 ≤ c.toNat ∧ c.toNat ≤ 102 then (c.toNat : Int) - 97 + 10 else if 65 ≤ c.toNat ∧ c.toNat ≤ 70 then (c.toNat : Int) - 65 + 10 else -1) := hide rfl
  have X := hide (isDigit_any c)
  generalize hexV c = r at *
  generalize isD c = d at *
  generalize c.toNat = n at *
  cases d
  · go_enter Tryz.func32, Tryz.ntmps32
    go_wp2_with fail
    refine (X.out _).mono ?_
    rintro e w1 ⟨rfl, rfl⟩
    go_wp2_with fail
    all_goals
      go_ret
      refine ⟨?_, rfl⟩
      rw [H.out]
      refine ret_i rfl ?_
      repeat' split
      all_goals first | contradiction | omega | (simp_all; done)
  · have h1 : 48 ≤ n ∧ n ≤ 57 := by simpa using hd.symm
    clear hd
    go_enter Tryz.func32, Tryz.ntmps32
    go_wp2_with fail
    refine (X.out _).mono ?_
    rintro e w1 ⟨rfl, rfl⟩
    go_wp2_with fail
    all_goals
      go_ret
      refine ⟨?_, rfl⟩
      rw [H.out]
      refine ret_i rfl ?_
      repeat' split
      all_goals first | contradiction | omega | (simp_all; done)
theorem isHc_any (c : UInt8) (w : World) : Calls Tryz.prog 34 #[.int .u8 c.toNat] w fun e w' => e = .returned (.bool (isH c)) ∧ w = w' := by
  have H : Hid (isH c = decide (0 ≤ hexV c)) := hide rfl
  have X := hide (digit_any c)
  generalize isH c = r at *
  generalize hexV c = d at *
  generalize c.toNat = n at *
  go_enter Tryz.func34, Tryz.ntmps34
  go_wp2_with fail
  refine (X.out _).mono ?_
  rintro e w1 ⟨rfl, rfl⟩
  go_wp2_with fail
  go_ret
  exact ⟨by rw [H.out]; rfl, rfl⟩
theorem isLDc_any (c : UInt8) (w : World) : Calls Tryz.prog 37 #[.int .u8 c.toNat] w fun e w' => e = .returned (.bool (isLD c)) ∧ w = w' := by
  have H : Hid (isLD c = (isD c || isL c)) := hide rfl
  have X := hide (isDigit_any c)
  have Y := hide (isLetter_any c)
  generalize isLD c = r at *
  generalize isD c = d at *
  generalize isL c = l at *
  generalize c.toNat = n at *
  cases d
  · go_enter Tryz.func37, Tryz.ntmps37
    go_wp2_with fail
    refine (X.out _).mono ?_
    rintro e w1 ⟨rfl, rfl⟩
    go_wp2_with fail
    refine (Y.out _).mono ?_
    rintro e w1 ⟨rfl, rfl⟩
    go_wp2_with fail
    go_ret
    exact ⟨by rw [H.out]; rfl, rfl⟩
  · go_enter Tryz.func37, Tryz.ntmps37
    go_wp2_with fail
    refine (X.out _).mono ?_
    rintro e w1 ⟨rfl, rfl⟩
    go_wp2_with fail
    go_ret
    exact ⟨by rw [H.out]; rfl, rfl⟩
/-- A function value that tells a kind of byte. -/
structure Kind (g : Nat) (k : UInt8 → Bool) : Prop where
  enters : ∀ args w, (callFunc g args).run Tryz.prog w = .ok (.enter g args) w
  tells : ∀ (c : UInt8) (w : World), Calls Tryz.prog g #[.int .u8 c.toNat] w fun e w' => e = .returned (.bool (k c)) ∧ w = w'
theorem kind_digit : Kind 35 isD := ⟨fun _ _ => by kernel_rfl, isDigit_any⟩
theorem kind_hex : Kind 34 isH := ⟨fun _ _ => by kernel_rfl, isHc_any⟩
theorem kind_word : Kind 37 isLD := ⟨fun _ _ => by kernel_rfl, isLDc_any⟩
end Go.Proofs.YtglgldmofibedaaGreatDoor
