/- The contracts of shortest and longest over Cut's closures. -/
import Derived.Test.YtpioelpmdaeieaaGreatDoorCutB
namespace Go.Proofs.YtpioelpmdaeieaaGreatDoor
open Go.RowKit
set_option linter.unusedVariables false
/-- What a search gives back: -1, or a length. -/
def Found (W : World) (n m : Nat) (e : Ending) (w' : World) : Prop := ∃ r : Int, e = .returned (.int .i64 r) ∧ max 0 r = (m : Int) ∧ -1 ≤ r ∧ r ≤ (n : Int) ∧ Below W.heap.size W w'
set_option maxHeartbeats 4000000 in
theorem short1_any (v p : LB) (bp bv : Nat) (hv : v.length ≤ 1024) (W : World) (hbp : bp < W.heap.size) (hbv : bv < W.heap.size) (c1 : W.cell? ⟨bp, 0, none⟩ = some (.string ⟨p.toArray⟩)) (c2 : W.cell? ⟨bv, 0, none⟩ = some (.string ⟨v.toArray⟩)) :
    Calls Tryz.prog 45 #[.int .i64 (v.length : Int), .func (.func 42) #[] #[.pointer (some ⟨bp, 0, none⟩), .pointer (some ⟨bv, 0, none⟩)]] W (Found W v.length (shortN (preF v p) v.length)) := by
  have HC1 := hide c1
  have HC2 := hide c2
  have kw : IntKind.i64.wrap ((v.length : Int) + 1) = (v.length : Int) + 1 := by simp [IntKind.wrap, IntKind.bits, IntKind.signed]; omega
  clear c1 c2
  go_enter Tryz.func45, Tryz.ntmps45
  go_wp2_with fail
  go_loopw [8] (fun u8 wx => ∃ i : Nat, i ≤ v.length + 1 ∧ u8 = .int .i64 (i : Int) ∧ Hid (Below W.heap.size W wx) ∧ Hid (∀ j, j < i → preF v p j = false)) (fun u8 _ => v.length + 1 - (intOf u8).toNat)
  case atStart => exact ⟨0, Nat.zero_le _, rfl, hide (Below.refl _ _), hide (fun j h => by omega)⟩
  case round =>
    obtain ⟨i, hi, rfl, HB, HF⟩ := hrel
    by_cases hlt : i ≤ v.length
    · have hlt' : (i : Int) < (v.length : Int) + 1 := by omega
      have hsz := HB.out.size
      have d1 := (HB.out.cell (p := ⟨bp, 0, none⟩) hbp).trans HC1.out
      have d2 := (HB.out.cell (p := ⟨bv, 0, none⟩) hbv).trans HC2.out
      have X := hide (cut1_any v p i bp bv (by omega) hv wr (by omega) (by omega) d1 d2)
      have ki : IntKind.i64.wrap ((i : Int) + 1) = (i : Int) + 1 := by simp [IntKind.wrap, IntKind.bits, IntKind.signed]; omega
      clear d1 d2
      obtain ⟨q, hq⟩ : ∃ q, preF v p i = q := ⟨_, rfl⟩
      rw [hq] at X
      cases q with
      | true =>
        have HR := hide (short_at (f := preF v p) hlt hq HF.out)
        clear hq HF
        go_wp2_with fail
        refine X.out.mono ?_
        rintro e w1 ⟨rfl, hb⟩
        have HB2 := hide (below_more HB.out (Nat.le_refl _) hb)
        clear hb X
        go_wp2_with fail
        go_ret
        exact ⟨_, rfl, by rw [HR.out]; omega, by omega, by omega, HB2.out⟩
      | false =>
        have HF2 : Hid (∀ j, j < i + 1 → preF v p j = false) := hide (fun j hj => by
          rcases Nat.lt_or_ge j i with h | h
          · exact HF.out j h
          · obtain rfl : j = i := by omega
            exact hq)
        clear hq HF
        go_wp2_with fail
        refine X.out.mono ?_
        rintro e w1 ⟨rfl, hb⟩
        have HB2 := hide (below_more HB.out (Nat.le_refl _) hb)
        clear hb X
        go_wp2_with fail
        go_roundw
        case rel => exact ⟨i + 1, by omega, by go_num, HB2, HF2⟩
        case measure => simp [intOf]; omega
    · have hlt' : ¬ (i : Int) < (v.length : Int) + 1 := by omega
      have HR := hide (short_no (f := preF v p) (n := v.length) (fun j hj => HF.out j (by omega)))
      clear HF
      go_wp2_with fail
      go_ret
      exact ⟨-1, rfl, by rw [HR.out]; rfl, by omega, by omega, HB.out⟩
set_option maxHeartbeats 4000000 in
theorem short2_any (v p : LB) (bp bv bn : Nat) (hv : v.length ≤ 1024) (W : World) (hbp : bp < W.heap.size) (hbv : bv < W.heap.size) (hbn : bn < W.heap.size) (c1 : W.cell? ⟨bp, 0, none⟩ = some (.string ⟨p.toArray⟩)) (c2 : W.cell? ⟨bv, 0, none⟩ = some (.string ⟨v.toArray⟩)) (c3 : W.cell? ⟨bn, 0, none⟩ = some (.int .i64 (v.length : Int))) :
    Calls Tryz.prog 45 #[.int .i64 (v.length : Int), .func (.func 44) #[] #[.pointer (some ⟨bp, 0, none⟩), .pointer (some ⟨bv, 0, none⟩), .pointer (some ⟨bn, 0, none⟩)]] W (Found W v.length (shortN (sufF v p) v.length)) := by
  have HC1 := hide c1
  have HC2 := hide c2
  have HC3 := hide c3
  have kw : IntKind.i64.wrap ((v.length : Int) + 1) = (v.length : Int) + 1 := by simp [IntKind.wrap, IntKind.bits, IntKind.signed]; omega
  clear c1 c2 c3
  go_enter Tryz.func45, Tryz.ntmps45
  go_wp2_with fail
  go_loopw [8] (fun u8 wx => ∃ i : Nat, i ≤ v.length + 1 ∧ u8 = .int .i64 (i : Int) ∧ Hid (Below W.heap.size W wx) ∧ Hid (∀ j, j < i → sufF v p j = false)) (fun u8 _ => v.length + 1 - (intOf u8).toNat)
  case atStart => exact ⟨0, Nat.zero_le _, rfl, hide (Below.refl _ _), hide (fun j h => by omega)⟩
  case round =>
    obtain ⟨i, hi, rfl, HB, HF⟩ := hrel
    by_cases hlt : i ≤ v.length
    · have hlt' : (i : Int) < (v.length : Int) + 1 := by omega
      have hsz := HB.out.size
      have d1 := (HB.out.cell (p := ⟨bp, 0, none⟩) hbp).trans HC1.out
      have d2 := (HB.out.cell (p := ⟨bv, 0, none⟩) hbv).trans HC2.out
      have d3 := (HB.out.cell (p := ⟨bn, 0, none⟩) hbn).trans HC3.out
      have X := hide (cut2_any v p i bp bv bn (by omega) hv wr (by omega) (by omega) (by omega) d1 d2 d3)
      have ki : IntKind.i64.wrap ((i : Int) + 1) = (i : Int) + 1 := by simp [IntKind.wrap, IntKind.bits, IntKind.signed]; omega
      clear d1 d2 d3
      obtain ⟨q, hq⟩ : ∃ q, sufF v p i = q := ⟨_, rfl⟩
      rw [hq] at X
      cases q with
      | true =>
        have HR := hide (short_at (f := sufF v p) hlt hq HF.out)
        clear hq HF
        go_wp2_with fail
        refine X.out.mono ?_
        rintro e w1 ⟨rfl, hb⟩
        have HB2 := hide (below_more HB.out (Nat.le_refl _) hb)
        clear hb X
        go_wp2_with fail
        go_ret
        exact ⟨_, rfl, by rw [HR.out]; omega, by omega, by omega, HB2.out⟩
      | false =>
        have HF2 : Hid (∀ j, j < i + 1 → sufF v p j = false) := hide (fun j hj => by
          rcases Nat.lt_or_ge j i with h | h
          · exact HF.out j h
          · obtain rfl : j = i := by omega
            exact hq)
        clear hq HF
        go_wp2_with fail
        refine X.out.mono ?_
        rintro e w1 ⟨rfl, hb⟩
        have HB2 := hide (below_more HB.out (Nat.le_refl _) hb)
        clear hb X
        go_wp2_with fail
        go_roundw
        case rel => exact ⟨i + 1, by omega, by go_num, HB2, HF2⟩
        case measure => simp [intOf]; omega
    · have hlt' : ¬ (i : Int) < (v.length : Int) + 1 := by omega
      have HR := hide (short_no (f := sufF v p) (n := v.length) (fun j hj => HF.out j (by omega)))
      clear HF
      go_wp2_with fail
      go_ret
      exact ⟨-1, rfl, by rw [HR.out]; rfl, by omega, by omega, HB.out⟩
set_option maxHeartbeats 4000000 in
theorem long1_any (v p : LB) (bp bv : Nat) (hv : v.length ≤ 1024) (W : World) (hbp : bp < W.heap.size) (hbv : bv < W.heap.size) (c1 : W.cell? ⟨bp, 0, none⟩ = some (.string ⟨p.toArray⟩)) (c2 : W.cell? ⟨bv, 0, none⟩ = some (.string ⟨v.toArray⟩)) :
    Calls Tryz.prog 46 #[.int .i64 (v.length : Int), .func (.func 42) #[] #[.pointer (some ⟨bp, 0, none⟩), .pointer (some ⟨bv, 0, none⟩)]] W (Found W v.length (longN (preF v p) v.length)) := by
  have HC1 := hide c1
  have HC2 := hide c2
  have kw : IntKind.i64.wrap ((v.length : Int) + 1) = (v.length : Int) + 1 := by simp [IntKind.wrap, IntKind.bits, IntKind.signed]; omega
  clear c1 c2
  go_enter Tryz.func46, Tryz.ntmps46
  go_wp2_with fail
  go_loopw [8] (fun u8 wx => ∃ i : Nat, i ≤ v.length + 1 ∧ u8 = .int .i64 (i : Int) ∧ Hid (Below W.heap.size W wx) ∧ Hid (∀ j, j < i → preF v p (v.length - j) = false)) (fun u8 _ => v.length + 1 - (intOf u8).toNat)
  case atStart => exact ⟨0, Nat.zero_le _, rfl, hide (Below.refl _ _), hide (fun j h => by omega)⟩
  case round =>
    obtain ⟨i, hi, rfl, HB, HF⟩ := hrel
    by_cases hlt : i ≤ v.length
    · have hlt' : (i : Int) < (v.length : Int) + 1 := by omega
      have hsz := HB.out.size
      have d1 := (HB.out.cell (p := ⟨bp, 0, none⟩) hbp).trans HC1.out
      have d2 := (HB.out.cell (p := ⟨bv, 0, none⟩) hbv).trans HC2.out
      have X := hide (cut1_any v p (v.length - i) bp bv (by omega) hv wr (by omega) (by omega) d1 d2)
      have ki : IntKind.i64.wrap ((i : Int) + 1) = (i : Int) + 1 := by simp [IntKind.wrap, IntKind.bits, IntKind.signed]; omega
      have ke : ((v.length - i : Nat) : Int) = (v.length : Int) - (i : Int) := by omega
      have kd : IntKind.i64.wrap ((v.length : Int) - (i : Int)) = (v.length : Int) - (i : Int) := by simp [IntKind.wrap, IntKind.bits, IntKind.signed]; omega
      rw [ke] at X
      clear ke
      clear d1 d2
      obtain ⟨q, hq⟩ : ∃ q, preF v p (v.length - i) = q := ⟨_, rfl⟩
      rw [hq] at X
      cases q with
      | true =>
        have HR := hide (long_at (f := preF v p) hlt hq HF.out)
        clear hq HF
        go_wp2_with fail
        refine X.out.mono ?_
        rintro e w1 ⟨rfl, hb⟩
        have HB2 := hide (below_more HB.out (Nat.le_refl _) hb)
        clear hb X
        go_wp2_with fail
        go_ret
        exact ⟨_, rfl, by rw [HR.out]; omega, by omega, by omega, HB2.out⟩
      | false =>
        have HF2 : Hid (∀ j, j < i + 1 → preF v p (v.length - j) = false) := hide (fun j hj => by
          rcases Nat.lt_or_ge j i with h | h
          · exact HF.out j h
          · obtain rfl : j = i := by omega
            exact hq)
        clear hq HF
        go_wp2_with fail
        refine X.out.mono ?_
        rintro e w1 ⟨rfl, hb⟩
        have HB2 := hide (below_more HB.out (Nat.le_refl _) hb)
        clear hb X
        go_wp2_with fail
        go_roundw
        case rel => exact ⟨i + 1, by omega, by go_num, HB2, HF2⟩
        case measure => simp [intOf]; omega
    · have hlt' : ¬ (i : Int) < (v.length : Int) + 1 := by omega
      have HR := hide (long_no (f := preF v p) (n := v.length) (fun j hj => HF.out j (by omega)))
      clear HF
      go_wp2_with fail
      go_ret
      exact ⟨-1, rfl, by rw [HR.out]; rfl, by omega, by omega, HB.out⟩
set_option maxHeartbeats 4000000 in
theorem long2_any (v p : LB) (bp bv bn : Nat) (hv : v.length ≤ 1024) (W : World) (hbp : bp < W.heap.size) (hbv : bv < W.heap.size) (hbn : bn < W.heap.size) (c1 : W.cell? ⟨bp, 0, none⟩ = some (.string ⟨p.toArray⟩)) (c2 : W.cell? ⟨bv, 0, none⟩ = some (.string ⟨v.toArray⟩)) (c3 : W.cell? ⟨bn, 0, none⟩ = some (.int .i64 (v.length : Int))) :
    Calls Tryz.prog 46 #[.int .i64 (v.length : Int), .func (.func 44) #[] #[.pointer (some ⟨bp, 0, none⟩), .pointer (some ⟨bv, 0, none⟩), .pointer (some ⟨bn, 0, none⟩)]] W (Found W v.length (longN (sufF v p) v.length)) := by
  have HC1 := hide c1
  have HC2 := hide c2
  have HC3 := hide c3
  have kw : IntKind.i64.wrap ((v.length : Int) + 1) = (v.length : Int) + 1 := by simp [IntKind.wrap, IntKind.bits, IntKind.signed]; omega
  clear c1 c2 c3
  go_enter Tryz.func46, Tryz.ntmps46
  go_wp2_with fail
  go_loopw [8] (fun u8 wx => ∃ i : Nat, i ≤ v.length + 1 ∧ u8 = .int .i64 (i : Int) ∧ Hid (Below W.heap.size W wx) ∧ Hid (∀ j, j < i → sufF v p (v.length - j) = false)) (fun u8 _ => v.length + 1 - (intOf u8).toNat)
  case atStart => exact ⟨0, Nat.zero_le _, rfl, hide (Below.refl _ _), hide (fun j h => by omega)⟩
  case round =>
    obtain ⟨i, hi, rfl, HB, HF⟩ := hrel
    by_cases hlt : i ≤ v.length
    · have hlt' : (i : Int) < (v.length : Int) + 1 := by omega
      have hsz := HB.out.size
      have d1 := (HB.out.cell (p := ⟨bp, 0, none⟩) hbp).trans HC1.out
      have d2 := (HB.out.cell (p := ⟨bv, 0, none⟩) hbv).trans HC2.out
      have d3 := (HB.out.cell (p := ⟨bn, 0, none⟩) hbn).trans HC3.out
      have X := hide (cut2_any v p (v.length - i) bp bv bn (by omega) hv wr (by omega) (by omega) (by omega) d1 d2 d3)
      have ki : IntKind.i64.wrap ((i : Int) + 1) = (i : Int) + 1 := by simp [IntKind.wrap, IntKind.bits, IntKind.signed]; omega
      have ke : ((v.length - i : Nat) : Int) = (v.length : Int) - (i : Int) := by omega
      have kd : IntKind.i64.wrap ((v.length : Int) - (i : Int)) = (v.length : Int) - (i : Int) := by simp [IntKind.wrap, IntKind.bits, IntKind.signed]; omega
      rw [ke] at X
      clear ke
      clear d1 d2 d3
      obtain ⟨q, hq⟩ : ∃ q, sufF v p (v.length - i) = q := ⟨_, rfl⟩
      rw [hq] at X
      cases q with
      | true =>
        have HR := hide (long_at (f := sufF v p) hlt hq HF.out)
        clear hq HF
        go_wp2_with fail
        refine X.out.mono ?_
        rintro e w1 ⟨rfl, hb⟩
        have HB2 := hide (below_more HB.out (Nat.le_refl _) hb)
        clear hb X
        go_wp2_with fail
        go_ret
        exact ⟨_, rfl, by rw [HR.out]; omega, by omega, by omega, HB2.out⟩
      | false =>
        have HF2 : Hid (∀ j, j < i + 1 → sufF v p (v.length - j) = false) := hide (fun j hj => by
          rcases Nat.lt_or_ge j i with h | h
          · exact HF.out j h
          · obtain rfl : j = i := by omega
            exact hq)
        clear hq HF
        go_wp2_with fail
        refine X.out.mono ?_
        rintro e w1 ⟨rfl, hb⟩
        have HB2 := hide (below_more HB.out (Nat.le_refl _) hb)
        clear hb X
        go_wp2_with fail
        go_roundw
        case rel => exact ⟨i + 1, by omega, by go_num, HB2, HF2⟩
        case measure => simp [intOf]; omega
    · have hlt' : ¬ (i : Int) < (v.length : Int) + 1 := by omega
      have HR := hide (long_no (f := sufF v p) (n := v.length) (fun j hj => HF.out j (by omega)))
      clear HF
      go_wp2_with fail
      go_ret
      exact ⟨-1, rfl, by rw [HR.out]; rfl, by omega, by omega, HB.out⟩
end Go.Proofs.YtpioelpmdaeieaaGreatDoor
