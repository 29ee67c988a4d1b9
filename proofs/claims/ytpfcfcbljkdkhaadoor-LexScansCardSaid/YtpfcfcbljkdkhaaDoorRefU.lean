/- The contracts of the reference's ends, word and gap. -/
import Derived.Test.YtpfcfcbljkdkhaaDoorRefT
namespace Go.Proofs.YtpfcfcbljkdkhaaDoor
open Go.RowKit
set_option linter.unusedVariables false
set_option maxRecDepth 1000000 in
set_option maxHeartbeats 8000000 in
theorem ends_any (c : UInt8) (w : World) : Calls Tryd.prog 37 #[.int .u8 (c.toNat : Int)] w fun e w' => e = .returned (.bool (isEnd c)) ∧ w' = w := by
  obtain ⟨R, hR⟩ : ∃ R, isEnd c = R := ⟨_, rfl⟩
  rw [hR]
  have t32 := u8_beq c 32
  change ((c.toNat : Int) == 32) = _ at t32
  have t9 := u8_beq c 9
  change ((c.toNat : Int) == 9) = _ at t9
  have t10 := u8_beq c 10
  change ((c.toNat : Int) == 10) = _ at t10
  have t124 := u8_beq c 124
  change ((c.toNat : Int) == 124) = _ at t124
  have t38 := u8_beq c 38
  change ((c.toNat : Int) == 38) = _ at t38
  have t59 := u8_beq c 59
  change ((c.toNat : Int) == 59) = _ at t59
  have t40 := u8_beq c 40
  change ((c.toNat : Int) == 40) = _ at t40
  have t41 := u8_beq c 41
  change ((c.toNat : Int) == 41) = _ at t41
  have t60 := u8_beq c 60
  change ((c.toNat : Int) == 60) = _ at t60
  have t62 := u8_beq c 62
  change ((c.toNat : Int) == 62) = _ at t62
  unfold isEnd at hR
  cases b32 : (c == 32) with
  | true =>
    rw [b32] at t32
    have HE : Hid (R = true) := hide (by rw [← hR]; simp [b32])
    clear hR b32 t9 t10 t124 t38 t59 t40 t41 t60 t62
    go_enter Tryd.func37, Tryd.ntmps37
    go_wp2_with fail
    go_ret
    exact ⟨ret_bool HE.out.symm, rfl⟩
  | false =>
  rw [b32] at t32
  cases b9 : (c == 9) with
  | true =>
    rw [b9] at t9
    have HE : Hid (R = true) := hide (by rw [← hR]; simp [b9])
    clear hR b32 b9 t10 t124 t38 t59 t40 t41 t60 t62
    go_enter Tryd.func37, Tryd.ntmps37
    go_wp2_with fail
    go_ret
    exact ⟨ret_bool HE.out.symm, rfl⟩
  | false =>
  rw [b9] at t9
  cases b10 : (c == 10) with
  | true =>
    rw [b10] at t10
    have HE : Hid (R = true) := hide (by rw [← hR]; simp [b10])
    clear hR b32 b9 b10 t124 t38 t59 t40 t41 t60 t62
    go_enter Tryd.func37, Tryd.ntmps37
    go_wp2_with fail
    go_ret
    exact ⟨ret_bool HE.out.symm, rfl⟩
  | false =>
  rw [b10] at t10
  cases b124 : (c == 124) with
  | true =>
    rw [b124] at t124
    have HE : Hid (R = true) := hide (by rw [← hR]; simp [b124])
    clear hR b32 b9 b10 b124 t38 t59 t40 t41 t60 t62
    go_enter Tryd.func37, Tryd.ntmps37
    go_wp2_with fail
    go_ret
    exact ⟨ret_bool HE.out.symm, rfl⟩
  | false =>
  rw [b124] at t124
  cases b38 : (c == 38) with
  | true =>
    rw [b38] at t38
    have HE : Hid (R = true) := hide (by rw [← hR]; simp [b38])
    clear hR b32 b9 b10 b124 b38 t59 t40 t41 t60 t62
    go_enter Tryd.func37, Tryd.ntmps37
    go_wp2_with fail
    go_ret
    exact ⟨ret_bool HE.out.symm, rfl⟩
  | false =>
  rw [b38] at t38
  cases b59 : (c == 59) with
  | true =>
    rw [b59] at t59
    have HE : Hid (R = true) := hide (by rw [← hR]; simp [b59])
    clear hR b32 b9 b10 b124 b38 b59 t40 t41 t60 t62
    go_enter Tryd.func37, Tryd.ntmps37
    go_wp2_with fail
    go_ret
    exact ⟨ret_bool HE.out.symm, rfl⟩
  | false =>
  rw [b59] at t59
  cases b40 : (c == 40) with
  | true =>
    rw [b40] at t40
    have HE : Hid (R = true) := hide (by rw [← hR]; simp [b40])
    clear hR b32 b9 b10 b124 b38 b59 b40 t41 t60 t62
    go_enter Tryd.func37, Tryd.ntmps37
    go_wp2_with fail
    go_ret
    exact ⟨ret_bool HE.out.symm, rfl⟩
  | false =>
  rw [b40] at t40
  cases b41 : (c == 41) with
  | true =>
    rw [b41] at t41
    have HE : Hid (R = true) := hide (by rw [← hR]; simp [b41])
    clear hR b32 b9 b10 b124 b38 b59 b40 b41 t60 t62
    go_enter Tryd.func37, Tryd.ntmps37
    go_wp2_with fail
    go_ret
    exact ⟨ret_bool HE.out.symm, rfl⟩
  | false =>
  rw [b41] at t41
  cases b60 : (c == 60) with
  | true =>
    rw [b60] at t60
    have HE : Hid (R = true) := hide (by rw [← hR]; simp [b60])
    clear hR b32 b9 b10 b124 b38 b59 b40 b41 b60 t62
    go_enter Tryd.func37, Tryd.ntmps37
    go_wp2_with fail
    go_ret
    exact ⟨ret_bool HE.out.symm, rfl⟩
  | false =>
  rw [b60] at t60
  cases b62 : (c == 62) with
  | true =>
    rw [b62] at t62
    have HE : Hid (R = true) := hide (by rw [← hR]; simp [b62])
    clear hR b32 b9 b10 b124 b38 b59 b40 b41 b60 b62
    go_enter Tryd.func37, Tryd.ntmps37
    go_wp2_with fail
    go_ret
    exact ⟨ret_bool HE.out.symm, rfl⟩
  | false =>
  rw [b62] at t62
  have HE : Hid (R = false) := hide (by rw [← hR]; simp [b32, b9, b10, b124, b38, b59, b40, b41, b60, b62])
  clear hR b32 b9 b10 b124 b38 b59 b40 b41 b60 b62
  go_enter Tryd.func37, Tryd.ntmps37
  go_wp2_with fail
  go_ret
  exact ⟨ret_bool HE.out.symm, rfl⟩
set_option maxRecDepth 1000000 in
set_option maxHeartbeats 8000000 in
theorem refword_any (p : LB) (hl : p.length ≤ 100000) (i0 : Nat) (h0 : i0 ≤ p.length) (w : World) : Calls Tryd.prog 24 #[.string ⟨p.toArray⟩, .int .i64 (i0 : Int)] w fun e w' => e = .returned (.tuple #[.int .i64 (((wordL p (p.length + 1) i0).1 : Nat) : Int), .bool (wordL p (p.length + 1) i0).2]) ∧ w' = w := by
  obtain ⟨R, hR⟩ : ∃ R, wordL p (p.length + 1) i0 = R := ⟨_, rfl⟩
  rw [hR]
  have HR := hide hR.symm
  clear hR
  go_enter Tryd.func24, Tryd.ntmps24
  go_wp2_with fail
  go_loopw [1] (fun u1 wx => ∃ i f : Nat, u1 = .int .i64 i ∧ i ≤ p.length ∧ p.length + 1 ≤ f + i ∧ Hid (R = wordL p f i) ∧ wx = w) (fun u1 _ => p.length - (intOf u1).toNat)
  case atStart => exact ⟨i0, p.length + 1, rfl, h0, by omega, HR, rfl⟩
  case round =>
    clear HR
    obtain ⟨i, f, rfl, hil, hf, HR, rfl⟩ := hrel
    obtain ⟨f, rfl⟩ : ∃ g, f = g + 1 := ⟨f - 1, by omega⟩
    have hR := HR.out
    unfold wordL at hR
    by_cases hlt : i < p.length
    · have hk : (i : Int) < (p.length : Int) := by omega
      rw [if_neg (by omega)] at hR
      have hix := ix_l p i (p.getD i 0) (getD_some hlt)
      have XE := hide (fun W => ends_any (p.getD i 0) W)
      have XS := hide (refskip_any p hl i)
      have hfa := skipP_facts p i
      unfold SkipC at XS
      generalize p.getD i 0 = c at *
      cases hb : isEnd c with
      | true =>
        rw [hb, if_pos rfl] at hR
        rw [hb] at XE
        have HX : Hid (R = (i, true)) := hide hR
        clear hR HR XS hb hfa
        go_wp2_with fail
        refine (XE.out _).mono ?_
        rintro e w2 ⟨rfl, rfl⟩
        go_wp2_with fail
        go_ret2
        exact ⟨by rw [HX.out]; first | done | rfl, rfl⟩
      | false =>
        rw [hb, if_neg (by decide)] at hR
        rw [hb] at XE
        obtain ⟨V, hV⟩ : ∃ V, skipP p i = V := ⟨_, rfl⟩
        rw [hV] at hR XS hfa
        obtain ⟨v1, v2⟩ := V
        dsimp only at hR XS hfa
        cases v2 with
        | false =>
          rw [if_pos rfl] at hR
          have HX : Hid (R = (v1, false)) := hide hR
          clear hR HR hV hb hfa
          go_wp2_with fail
          refine (XE.out _).mono ?_
          rintro e w2 ⟨rfl, rfl⟩
          go_wp2_with fail
          refine (XS.out _).mono ?_
          rintro e w2 ⟨rfl, rfl⟩
          go_wp2_with fail
          go_ret2
          exact ⟨by rw [HX.out]; first | done | rfl, rfl⟩
        | true =>
          rw [if_neg (by decide)] at hR
          have HX : Hid (R = wordL p f v1) := hide hR
          have h1 := hfa.1
          have h2 := hfa.2 rfl
          clear hR HR hV hb hfa
          go_wp2_with fail
          refine (XE.out _).mono ?_
          rintro e w2 ⟨rfl, rfl⟩
          go_wp2_with fail
          refine (XS.out _).mono ?_
          rintro e w2 ⟨rfl, rfl⟩
          go_wp2_with fail
          go_roundw
          case rel => exact ⟨v1, f, rfl, by omega, by omega, HX, by trivial⟩
          case measure => simp [intOf]; omega
    · have hk : ¬ (i : Int) < (p.length : Int) := by omega
      rw [if_pos (by omega)] at hR
      have HX : Hid (R = (i, true)) := hide hR
      clear hR HR
      go_wp2_with fail
      go_ret2
      exact ⟨by rw [HX.out]; first | done | rfl, rfl⟩
theorem line_step (p : LB) (j : Nat) : (lineP (p.drop j)).length = if p.length ≤ j then 0 else if p.getD j 0 = 10 then 0 else (lineP (p.drop (j + 1))).length + 1 := by
  by_cases h1 : p.length ≤ j
  · rw [if_pos h1, List.drop_eq_nil_of_le h1]; rfl
  have hj : j < p.length := by omega
  have hg : p.getD j 0 = p[j] := by simp [List.getD_eq_getElem?_getD, hj]
  rw [if_neg h1, List.drop_eq_getElem_cons hj, lineP, ← hg]
  split <;> simp
end Go.Proofs.YtpfcfcbljkdkhaaDoor
