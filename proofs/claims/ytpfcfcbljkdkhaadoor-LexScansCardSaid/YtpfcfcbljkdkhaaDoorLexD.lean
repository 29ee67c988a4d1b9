/- Contracts of lex.pair, operator, number. -/
import Derived.Test.YtpfcfcbljkdkhaaDoorLexC
namespace Go.Proofs.YtpfcfcbljkdkhaaDoor
open Go.RowKit
set_option linter.unusedVariables false
def pairV : Value := .agg #[.string ⟨#[38, 38]⟩, .string ⟨#[124, 124]⟩, .string ⟨#[59, 59]⟩, .string ⟨#[62, 62]⟩, .string ⟨#[60, 60]⟩, .string ⟨#[60, 38]⟩, .string ⟨#[62, 38]⟩]
theorem pair_ix : ∀ (k : Nat) (h : k < 7) (W : World), (Instr.index 73 (.agg #[.string ⟨#[38, 38]⟩, .string ⟨#[124, 124]⟩, .string ⟨#[59, 59]⟩, .string ⟨#[62, 62]⟩, .string ⟨#[60, 60]⟩, .string ⟨#[60, 38]⟩, .string ⟨#[62, 38]⟩]) (.int .i64 (k : Int))).run Tryd.prog W = .ok (.string ⟨(pairL[k]'h).toArray⟩) W
  | 0, _, _ => rfl
  | 1, _, _ => rfl
  | 2, _, _ => rfl
  | 3, _, _ => rfl
  | 4, _, _ => rfl
  | 5, _, _ => rfl
  | 6, _, _ => rfl
set_option maxRecDepth 100000 in
set_option maxHeartbeats 2000000 in
theorem pair_any (l : LB) (w : World) (hs : Std w) : Calls Tryd.prog 43 #[.string ⟨l.toArray⟩] w fun e w' => e = .returned (.bool (pairP (l.getD 0 0) (l.getD 1 0))) ∧ Below w.heap.size w w' := by
  have c0 : w.cell? ⟨0, 0, none⟩ = some (.string ⟨#[38, 38]⟩) := hs 0 (by omega)
  have c1 : w.cell? ⟨0, 1, none⟩ = some (.string ⟨#[124, 124]⟩) := hs 1 (by omega)
  have c2 : w.cell? ⟨0, 2, none⟩ = some (.string ⟨#[59, 59]⟩) := hs 2 (by omega)
  have c3 : w.cell? ⟨0, 3, none⟩ = some (.string ⟨#[62, 62]⟩) := hs 3 (by omega)
  have c4 : w.cell? ⟨0, 4, none⟩ = some (.string ⟨#[60, 60]⟩) := hs 4 (by omega)
  have c5 : w.cell? ⟨0, 5, none⟩ = some (.string ⟨#[60, 38]⟩) := hs 5 (by omega)
  have c6 : w.cell? ⟨0, 6, none⟩ = some (.string ⟨#[62, 38]⟩) := hs 6 (by omega)
  have HE := hide (pair_eq l)
  clear hs
  go_enter Tryd.func43, Tryd.ntmps43
  go_wp2_with fail
  go_loopw [6] (fun u6 wx => ∃ k : Nat, k ≤ 7 ∧ u6 = .int .i64 k ∧ wx = w ∧ Hid (∀ j (hj : j < 7), j < k → Lib.hasPrefix l (pairL[j]'hj) = false)) (fun u6 _ => 7 - (intOf u6).toNat)
  case atStart => exact ⟨0, by omega, rfl, rfl, hide fun j _ h => absurd h (by omega)⟩
  case round =>
    obtain ⟨k, hk, rfl, rfl, HN⟩ := hrel
    by_cases h7 : k < 7
    · have hlt : (k : Int) < 7 := by omega
      have hix := pair_ix k h7
      have HP := hide (fun W => pre_l l (pairL[k]'h7) W)
      obtain ⟨b, hb⟩ : ∃ b, Lib.hasPrefix l (pairL[k]'h7) = b := ⟨_, rfl⟩
      rw [hb] at HP
      cases b with
      | true =>
        have HR : Hid (pairP (l.getD 0 0) (l.getD 1 0) = true) := hide (by rw [HE.out]; exact pair_yes h7 hb)
        clear hb HE HN
        go_wp2_with fail
        refine (HP.out _).mono ?_
        rintro e w1 ⟨rfl, rfl⟩
        go_wp2_with fail
        go_ret
        exact ⟨ret_bool HR.out.symm, Below.refl _ _⟩
      | false =>
        have HN2 : Hid (∀ j (hj : j < 7), j < k + 1 → Lib.hasPrefix l (pairL[j]'hj) = false) := hide fun j hj h => by
          rcases Nat.lt_or_ge j k with h1 | h1
          · exact HN.out j hj h1
          · obtain rfl : j = k := by omega
            exact hb
        clear hb HE HN
        go_wp2_with fail
        refine (HP.out _).mono ?_
        rintro e w1 ⟨rfl, rfl⟩
        go_wp2_with fail
        go_roundw
        case rel => exact ⟨k + 1, by omega, by go_num, by first | rfl | trivial, HN2⟩
        case measure => simp [intOf]; omega
    · have hlt : ¬ (k : Int) < 7 := by omega
      have HR : Hid (pairP (l.getD 0 0) (l.getD 1 0) = false) := hide (by rw [HE.out]; exact pair_no HN.out (by omega))
      clear HE HN
      go_wp2_with fail
      go_ret
      exact ⟨ret_bool HR.out.symm, Below.refl _ _⟩
theorem opOne_mem (c : UInt8) : opOne c = true ↔ c ∈ ([59, 40, 41, 124, 60, 62] : LB) := by
  simp [opOne, or_assoc]
set_option maxRecDepth 100000 in
set_option maxHeartbeats 2000000 in
theorem oper_any (l : LB) (h0 : 0 < l.length) (w : World) (hs : Std w) : Calls Tryd.prog 33 #[.string ⟨l.toArray⟩] w fun e w' => e = .returned (.int .i64 (operP l : Int)) ∧ Below w.heap.size w w' := by
  have X1 := hide (fun W h => pair_any l W h)
  have hix : ∀ W, (Instr.index 9 (.string ⟨l.toArray⟩) (.int .i64 0)).run Tryd.prog W = .ok (.int .u8 ((l.getD 0 0).toNat : Int)) W := ix_l l 0 (l.getD 0 0) (getD_some h0)
  have X2 := hide (fun W => ixb_l [59, 40, 41, 124, 60, 62] (l.getD 0 0) W)
  have hm := ixb_mem [59, 40, 41, 124, 60, 62] (l.getD 0 0)
  have hop := opOne_mem (l.getD 0 0)
  have hE : operP l = if pairP (l.getD 0 0) (l.getD 1 0) = true then 2 else if opOne (l.getD 0 0) = true then 1 else 0 := rfl
  obtain ⟨z, hz⟩ : ∃ z, Lib.indexByte [59, 40, 41, 124, 60, 62] (l.getD 0 0) = z := ⟨_, rfl⟩
  rw [hz] at X2 hm
  clear hz
  generalize l.getD 0 0 = c at *
  generalize pairP c (l.getD 1 0) = b at *
  generalize operP l = r at *
  have HS := hide hs
  have HE := hide hE
  clear hs hE
  cases b with
  | true =>
    have HR : Hid (r = 2) := hide (by rw [HE.out]; rfl)
    clear HE hop hm
    go_enter Tryd.func33, Tryd.ntmps33
    go_wp2_with fail
    refine (X1.out _ HS.out).mono ?_
    rintro e w1 ⟨rfl, hb⟩
    have HB := hide hb
    clear hb
    go_wp2_with fail
    go_ret
    exact ⟨ret_int (by rw [HR.out]; rfl), HB.out⟩
  | false =>
    by_cases h1 : 0 ≤ z
    · have HR : Hid (r = 1) := hide (by rw [HE.out, if_neg (by decide), if_pos (hop.2 (hm.1 h1))])
      clear HE hop hm
      go_enter Tryd.func33, Tryd.ntmps33
      go_wp2_with fail
      refine (X1.out _ HS.out).mono ?_
      rintro e w1 ⟨rfl, hb⟩
      have HB := hide hb
      clear hb
      go_wp2_with fail
      refine (X2.out _).mono ?_
      rintro e w2 ⟨rfl, rfl⟩
      go_wp2_with fail
      go_ret
      exact ⟨ret_int (by rw [HR.out]; rfl), HB.out⟩
    · have HR : Hid (r = 0) := hide (by rw [HE.out, if_neg (by decide), if_neg (fun h => h1 (hm.2 (hop.1 h)))])
      clear HE hop hm
      go_enter Tryd.func33, Tryd.ntmps33
      go_wp2_with fail
      refine (X1.out _ HS.out).mono ?_
      rintro e w1 ⟨rfl, hb⟩
      have HB := hide hb
      clear hb
      go_wp2_with fail
      refine (X2.out _).mono ?_
      rintro e w2 ⟨rfl, rfl⟩
      go_wp2_with fail
      go_ret
      exact ⟨ret_int (by rw [HR.out]; rfl), HB.out⟩
theorem digs_step (i : Nat) (l : LB) (hi : i < l.length) (h3 : i ≤ 3) : digs (4 - i) (l.drop i) = if dig (l.getD i 0) = true then digs (4 - (i + 1)) (l.drop (i + 1)) + 1 else 0 := by
  rw [List.drop_eq_getElem_cons hi, show 4 - i = (4 - (i + 1)) + 1 by omega]
  have : l.getD i 0 = l[i] := by simp [List.getD_eq_getElem?_getD, hi]
  rw [this, digs]
set_option maxRecDepth 100000 in
set_option maxHeartbeats 4000000 in
theorem num_any (l : LB) (hl : l.length ≤ 100000) (w : World) : Calls Tryd.prog 34 #[.string ⟨l.toArray⟩] w fun e w' => e = .returned (.int .i64 (numP l : Int)) ∧ w = w' := by
  have hE : numP l = if 3 < digs 4 l ∨ digs 4 l = l.length ∨ (l.getD (digs 4 l) 0 ≠ 60 ∧ l.getD (digs 4 l) 0 ≠ 62) then 0 else digs 4 l := rfl
  have hd := digs_le 4 l
  have HD0 : Hid (digs 4 l = 0 + digs (4 - 0) (l.drop 0)) := hide (by simp)
  obtain ⟨D, hD⟩ : ∃ D, digs 4 l = D := ⟨_, rfl⟩
  rw [hD] at hE hd HD0
  have HE := hide hE
  clear hE hD
  generalize numP l = r at *
  go_enter Tryd.func34, Tryd.ntmps34
  go_wp2_with fail
  go_loopw [3] (fun u3 wx => ∃ i : Nat, i ≤ 4 ∧ i ≤ l.length ∧ u3 = .int .i64 i ∧ wx = w ∧ Hid (D = i + digs (4 - i) (l.drop i))) (fun u3 _ => 5 - (intOf u3).toNat)
  case atStart => exact ⟨0, by omega, by omega, rfl, rfl, HD0⟩
  case round =>
    clear HD0
    obtain ⟨i, h4, hil, rfl, rfl, HD⟩ := hrel
    have hback : i = D → (¬ ((i : Int) < (l.length : Int)) ∨ ¬ ((i : Int) ≤ 3) ∨ (i < l.length ∧ i ≤ 3 ∧ dig (l.getD i 0) = false)) := fun e => by
      rcases Nat.lt_or_ge i l.length with h1 | h1
      · rcases Nat.lt_or_ge 3 i with h2 | h2
        · exact .inr (.inl (by omega))
        · refine .inr (.inr ⟨h1, h2, ?_⟩)
          have h3 := HD.out
          rw [digs_step i l h1 h2] at h3
          cases hdg : dig (l.getD i 0) with
          | false => rfl
          | true => rw [hdg] at h3; simp at h3; omega
      · exact .inl (by omega)
    have HBK := hide hback
    clear hback
    by_cases hgo : i < l.length ∧ i ≤ 3 ∧ dig (l.getD i 0) = true
    · obtain ⟨h1, h2, h3⟩ := hgo
      have HD2 : Hid (D = (i + 1) + digs (4 - (i + 1)) (l.drop (i + 1))) := hide (by
        have := HD.out
        rw [digs_step i l h1 h2, if_pos h3] at this
        omega)
      have hix := ix_l l i (l.getD i 0) (getD_some h1)
      generalize l.getD i 0 = c at *
      have hc : (48 : Int) ≤ (c.toNat : Int) ∧ (c.toNat : Int) ≤ 57 := by
        simp [dig] at h3; omega
      obtain ⟨hc1, hc2⟩ := hc
      have k1 : (i : Int) < (l.length : Int) := by omega
      have k2 : (i : Int) ≤ 3 := by omega
      clear h3 HD HE HBK
      go_wp2_with fail
      go_roundw
      case rel => exact ⟨i + 1, by omega, by omega, by go_num, by first | rfl | trivial, HD2⟩
      case measure => simp [intOf]; omega
    · have hDi : D = i := by
        have h := HD.out
        rcases Nat.lt_or_ge i l.length with h1 | h1
        · rcases Nat.lt_or_ge 3 i with h2 | h2
          · rw [show 4 - i = 0 by omega] at h; simpa [digs] using h
          · rw [digs_step i l h1 h2, if_neg (fun h3 => hgo ⟨h1, h2, h3⟩)] at h; omega
        · rw [List.drop_of_length_le h1] at h
          cases hq : 4 - i with
          | zero => rw [hq] at h; simpa [digs] using h
          | succ q => rw [hq] at h; simpa [digs] using h
      have HG := hide hgo
      clear hgo HBK HD
      subst hDi
      by_cases h1 : D < l.length
      · have k1 : (D : Int) < (l.length : Int) := by omega
        have hix := ix_l l D (l.getD D 0) (getD_some h1)
        have kne : ((D : Int) == (l.length : Int)) = false := beq_eq_false_iff_ne.2 (by omega)
        have t60 := u8_beq (l.getD D 0) 60
        have t62 := u8_beq (l.getD D 0) 62
        change (((l.getD D 0).toNat : Int) == 60) = _ at t60
        change (((l.getD D 0).toNat : Int) == 62) = _ at t62
        by_cases h2 : D ≤ 3
        · have k2 : (D : Int) ≤ 3 := by omega
          have k3 : ¬ (3 : Int) < (D : Int) := by omega
          have hnd : dig (l.getD D 0) = false := by
            cases hdg : dig (l.getD D 0) with
            | false => rfl
            | true => exact absurd ⟨h1, h2, hdg⟩ HG.out
          have HR : Hid (r = if l.getD D 0 ≠ 60 ∧ l.getD D 0 ≠ 62 then 0 else D) := hide (by
            rw [HE.out]
            have a1 : ¬ 3 < D := by omega
            have a2 : ¬ D = l.length := by omega
            simp [a1, a2])
          clear HE HG
          generalize l.getD D 0 = c at *
          have hc : ¬ ((48 : Int) ≤ (c.toNat : Int)) ∨ ((48 : Int) ≤ (c.toNat : Int) ∧ ¬ ((c.toNat : Int) ≤ 57)) := by
            simp [dig] at hnd; omega
          clear hnd
          have hfin : (c = 60 ∨ c = 62) ∨ (¬ c = 60 ∧ ¬ c = 62) := by
            by_cases a : c = 60
            · exact .inl (.inl a)
            · by_cases b : c = 62
              · exact .inl (.inr b)
              · exact .inr ⟨a, b⟩
          rcases hfin with hf | ⟨hf1, hf2⟩
          · have HR2 : Hid (r = D) := hide (by rw [HR.out, if_neg (by rcases hf with h | h <;> simp [h])])
            have hn : ((c.toNat : Int) != 60) = false ∨ ((c.toNat : Int) != 60) = true ∧ ((c.toNat : Int) != 62) = false := by
              rcases hf with rfl | rfl
              · exact .inl (by decide)
              · exact .inr ⟨by decide, by decide⟩
            clear HR hf t60 t62
            rcases hc with hc | ⟨hc1, hc2⟩ <;> rcases hn with hn | ⟨hn1, hn2⟩ <;>
            · go_wp2_with fail
              go_ret
              exact ⟨ret_int (by rw [HR2.out]), rfl⟩
          · have HR2 : Hid (r = 0) := hide (by rw [HR.out, if_pos ⟨hf1, hf2⟩])
            have hn1 : ((c.toNat : Int) != 60) = true := by rw [bne, t60, beq_eq_false_iff_ne.2 hf1]; rfl
            have hn2 : ((c.toNat : Int) != 62) = true := by rw [bne, t62, beq_eq_false_iff_ne.2 hf2]; rfl
            clear HR hf1 hf2 t60 t62
            rcases hc with hc | ⟨hc1, hc2⟩ <;>
            · go_wp2_with fail
              go_ret
              exact ⟨ret_int (by rw [HR2.out]; rfl), rfl⟩
        · have HR2 : Hid (r = 0) := hide (by rw [HE.out, if_pos (.inl (by omega))])
          have k2 : ¬ (D : Int) ≤ 3 := by omega
          have k3 : (3 : Int) < (D : Int) := by omega
          clear HE HG t60 t62
          go_wp2_with fail
          go_ret
          exact ⟨ret_int (by rw [HR2.out]; rfl), rfl⟩
      · have k1 : ¬ (D : Int) < (l.length : Int) := by omega
        have HR2 : Hid (r = 0) := hide (by rw [HE.out, if_pos (.inr (.inl (by omega)))])
        have keq : ((D : Int) == (l.length : Int)) = true := beq_iff_eq.2 (by omega)
        clear HE HG
        by_cases h3 : 3 < D
        · have k3 : (3 : Int) < (D : Int) := by omega
          go_wp2_with fail
          go_ret
          exact ⟨ret_int (by rw [HR2.out]; rfl), rfl⟩
        · have k3 : ¬ (3 : Int) < (D : Int) := by omega
          go_wp2_with fail
          go_ret
          exact ⟨ret_int (by rw [HR2.out]; rfl), rfl⟩
end Go.Proofs.YtpfcfcbljkdkhaaDoor
