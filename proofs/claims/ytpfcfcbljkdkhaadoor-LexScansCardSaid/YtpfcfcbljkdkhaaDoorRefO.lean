/- The contract of the reference's operator. -/
import Derived.Test.YtpfcfcbljkdkhaaDoorRefY
namespace Go.Proofs.YtpfcfcbljkdkhaaDoor
open Go.RowKit
set_option linter.unusedVariables false
theorem str_at (g1 m k q : Nat) (i : Int) (hi : i = (q : Int)) (hq : q < m) (W : World) : (Instr.indexAt 60 (.slice (some ⟨g1, 0, none⟩) m k) (.int .i64 i)).run Tryd.prog W = .ok (.pointer (some ⟨g1, q, none⟩)) W := by
  subst hi
  have hE : Tryd.prog.elem 60 = 9 := by simp [Program.elem, Tryd.underlying60]
  rw [run_indexAt_slice W 60 ⟨g1, 0, none⟩ m k .i64 (q : Int) (slice_ht Tryd.underlying60), if_pos ⟨by omega, by omega⟩]
  rw [hE, run_sizeOf_one _ sizeStr W]
  simp only [Result.andThen, Int.toNat_natCast, at_add, Nat.zero_add, Nat.mul_one]
theorem pair_two (k : Nat) (h : k < 7) : ∃ c d, pairL[k]'h = [c, d] ∧ c ≠ 0 ∧ d ≠ 0 := by
  match k, h with
  | 0, _ => exact ⟨38, 38, rfl, by decide, by decide⟩
  | 1, _ => exact ⟨124, 124, rfl, by decide, by decide⟩
  | 2, _ => exact ⟨59, 59, rfl, by decide, by decide⟩
  | 3, _ => exact ⟨62, 62, rfl, by decide, by decide⟩
  | 4, _ => exact ⟨60, 60, rfl, by decide, by decide⟩
  | 5, _ => exact ⟨60, 38, rfl, by decide, by decide⟩
  | 6, _ => exact ⟨62, 38, rfl, by decide, by decide⟩
theorem hp_take (r : LB) (k : Nat) (h : k < 7) : Lib.hasPrefix r (pairL[k]'h) = (decide (2 ≤ r.length) && (r.take 2 == pairL[k]'h)) := by
  obtain ⟨c, d, e, h1, h2⟩ := pair_two k h
  rw [e, pre_two c d r h1 h2]
  match r with
  | [] => simp [Ne.symm h1]
  | [a] => simp [Ne.symm h2]
  | a :: b :: t => simp
def twoC : Array Value := #[.string ⟨#[38, 38]⟩, .string ⟨#[124, 124]⟩, .string ⟨#[59, 59]⟩, .string ⟨#[62, 62]⟩, .string ⟨#[60, 60]⟩, .string ⟨#[60, 38]⟩, .string ⟨#[62, 38]⟩]
theorem two_at (k : Nat) (h : k < 7) : twoC[k]? = some (.string ⟨(pairL[k]'h).toArray⟩) := by
  match k, h with
  | 0, _ => rfl
  | 1, _ => rfl
  | 2, _ => rfl
  | 3, _ => rfl
  | 4, _ => rfl
  | 5, _ => rfl
  | 6, _ => rfl
set_option maxRecDepth 1000000 in
set_option maxHeartbeats 8000000 in
theorem refoper_any (p : LB) (hl : p.length ≤ 100000) (i : Nat) (hi : i < p.length) (w : World) : Calls Tryd.prog 22 #[.string ⟨p.toArray⟩, .int .i64 (i : Int)] w fun e w' => e = .returned (.string ⟨((p.drop i).take (operP (p.drop i))).toArray⟩) ∧ Below w.heap.size w w' := by
  have hOP : operP (p.drop i) = if pairP ((p.drop i).getD 0 0) ((p.drop i).getD 1 0) = true then 2 else if opOne ((p.drop i).getD 0 0) = true then 1 else 0 := rfl
  have g0 := drop_getD p i 0
  rw [Nat.add_zero] at g0
  rw [g0] at hOP
  have HPE := hide (pair_eq (p.drop i))
  rw [g0] at HPE
  have HPY := hide (fun (k : Nat) (h : k < 7) hb => pair_yes (l := p.drop i) h hb)
  have HPN := hide (fun h hk => pair_no (l := p.drop i) (k := 7) h hk)
  have HTK := hide (hp_take (p.drop i))
  have hlen : (p.drop i).length = p.length - i := by simp
  obtain ⟨OP, hOPe⟩ : ∃ x, operP (p.drop i) = x := ⟨_, rfl⟩
  rw [hOPe] at hOP ⊢
  have HOP := hide hOP
  clear hOPe hOP
  have hix := ix_l p i (p.getD i 0) (getD_some hi)
  have hs1 := sl_two p i (i + 1) (i : Int) ((i : Int) + 1) rfl (by omega) (by omega) (by omega)
  rw [Nat.add_sub_cancel_left] at hs1
  have hs2 : i + 2 ≤ p.length → ∀ W, (Instr.slice 9 (.string ⟨p.toArray⟩) (some (.int .i64 (i : Int))) (some (.int .i64 ((i : Int) + 2))) none).run Tryd.prog W = .ok (.string ⟨((p.drop i).take 2).toArray⟩) W := fun h => by
    have := sl_two p i (i + 2) (i : Int) ((i : Int) + 2) rfl (by omega) (by omega) h
    rw [Nat.add_sub_cancel_left] at this
    exact this
  have HS2 := hide hs2
  clear hs2
  have kw1 : IntKind.i64.wrap ((i : Int) + 1) = (i : Int) + 1 := by simp [IntKind.wrap, IntKind.bits, IntKind.signed]; omega
  have kw2 : IntKind.i64.wrap ((i : Int) + 2) = (i : Int) + 2 := by simp [IntKind.wrap, IntKind.bits, IntKind.signed]; omega
  have kw3 : IntKind.i64.wrap ((p.length : Int) - (i : Int)) = (p.length : Int) - (i : Int) := by simp [IntKind.wrap, IntKind.bits, IntKind.signed]; omega
  obtain ⟨b, hb⟩ : ∃ b, w.heap.size = b := ⟨_, rfl⟩
  have hB0 : Below b w (w.alloc (.cells twoC 9)) := by rw [← hb]; exact (Below.refl _ _).alloc (Nat.le_refl _) _
  have hP0 : Blk (w.alloc (.cells twoC 9)) b 9 twoC := by rw [← hb]; exact Blk.new w 9 twoC
  have HBE := hide hb
  have HB0 := hide hB0
  have HP0 := hide hP0
  clear hb hB0 hP0 g0
  unfold twoC at HB0 HP0
  go_enter Tryd.func22, Tryd.ntmps22
  go_wp2_with fail
  rw [HBE.out]
  obtain ⟨W0, hW0⟩ : ∃ W, w.alloc (.cells #[.string ⟨#[38, 38]⟩, .string ⟨#[124, 124]⟩, .string ⟨#[59, 59]⟩, .string ⟨#[62, 62]⟩, .string ⟨#[60, 60]⟩, .string ⟨#[60, 38]⟩, .string ⟨#[62, 38]⟩] 9) = W := ⟨_, rfl⟩
  rw [hW0] at HB0 HP0 ⊢
  clear hW0
  go_loopw [6] (fun u6 wx => ∃ k : Nat, k ≤ 7 ∧ u6 = .int .i64 k ∧ Hid (Blk wx b 9 twoC) ∧ Hid (Below b w wx) ∧ Hid (∀ j (hj : j < 7), j < k → Lib.hasPrefix (p.drop i) (pairL[j]'hj) = false)) (fun u6 _ => 7 - (intOf u6).toNat)
  case atStart => exact ⟨0, by omega, rfl, HP0, HB0, hide fun j _ h => absurd h (by omega)⟩
  case round =>
    clear HP0 HB0
    obtain ⟨k, hk, rfl, HP, HB, HN⟩ := hrel
    by_cases h7 : k < 7
    · have hlt : (k : Int) < 7 := by omega
      have hcell : wr.cell? ⟨b, k, none⟩ = some (.string ⟨(pairL[k]'h7).toArray⟩) := (HP.out.cell k).trans (two_at k h7)
      have hia : ∀ W, (Instr.indexAt 60 (.slice (some ⟨b, 0, none⟩) 7 7) (.int .i64 (k : Int))).run Tryd.prog W = .ok (.pointer (some ⟨b, k, none⟩)) W := fun W => str_at b 7 7 k (k : Int) rfl h7 W
      obtain ⟨bb, hbb⟩ : ∃ bb, Lib.hasPrefix (p.drop i) (pairL[k]'h7) = bb := ⟨_, rfl⟩
      have htk := HTK.out k h7
      rw [hbb, hlen] at htk
      have hyes := HPY.out k h7
      rw [hbb] at hyes
      have HN2 : Hid (bb = false → ∀ j (hj : j < 7), j < k + 1 → Lib.hasPrefix (p.drop i) (pairL[j]'hj) = false) := hide fun hf j hj h => by
        rcases Nat.lt_or_ge j k with h1 | h1
        · exact HN.out j hj h1
        · obtain rfl : j = k := by omega
          rw [hbb, hf]
      obtain ⟨PK, hPK⟩ : ∃ PK, pairL[k]'h7 = PK := ⟨_, rfl⟩
      rw [hPK] at hcell htk hbb
      have HY := hide hyes
      by_cases h2 : i + 2 ≤ p.length
      · have hs2 := HS2.out h2
        have k2 : (2 : Int) ≤ (p.length : Int) - (i : Int) := by omega
        have kd : decide ((2 : Int) ≤ (p.length : Int) - (i : Int)) = true := decide_eq_true (by omega)
        rw [decide_eq_true (by omega), Bool.true_and] at htk
        obtain ⟨Q, hQ⟩ : ∃ Q, (p.drop i).take 2 = Q := ⟨_, rfl⟩
        rw [hQ] at htk hs2
        have HQ := hide hQ
        clear hQ hbb hPK hyes
        cases bb with
        | true =>
          have hqe : (Q == PK) = true := htk.symm
          have hp := HPE.out.trans (HY.out rfl)
          have HX : Hid ((p.drop i).take OP = PK) := hide (by rw [HOP.out, if_pos hp, HQ.out]; exact beq_iff_eq.1 hqe)
          clear htk HN HN2 HPE HPY HPN HTK HY HOP HS2 HQ hp
          go_wp2_with fail
          go_quiet (fail)
          go_wp2_with fail
          go_ret
          exact ⟨by rw [HX.out]; first | done | rfl, by rw [HBE.out]; exact belowN _ HB.out⟩
        | false =>
          have hqe : (Q == PK) = false := htk.symm
          have HN3 := hide (HN2.out rfl)
          clear htk HN HN2 HPE HPY HPN HTK HY HOP HQ
          go_wp2_with fail
          go_quiet (fail)
          go_wp2_with fail
          go_roundw
          case rel => exact ⟨k + 1, by omega, by go_num, hide (HP.out.drewN _), hide (belowN _ HB.out), HN3⟩
          case measure => simp [intOf]; omega
      · have k2 : ¬ (2 : Int) ≤ (p.length : Int) - (i : Int) := by omega
        have kd : decide ((2 : Int) ≤ (p.length : Int) - (i : Int)) = false := decide_eq_false (by omega)
        rw [decide_eq_false (by omega), Bool.false_and] at htk
        subst htk
        have HN3 := hide (HN2.out rfl)
        clear HN HN2 HPE HPY HPN HTK HY HOP hbb hPK hyes
        go_wp2_with fail
        go_quiet (fail)
        go_wp2_with fail
        go_roundw
        case rel => exact ⟨k + 1, by omega, by go_num, hide (HP.out.drewN _), hide (belowN _ HB.out), HN3⟩
        case measure => simp [intOf]; omega
    · have hlt : ¬ (k : Int) < 7 := by omega
      have hpf := HPE.out.trans (HPN.out (fun j hj _ => HN.out j hj (by omega)) (Nat.le_refl _))
      have hop := HOP.out
      rw [hpf, if_neg (by decide)] at hop
      have HOP := hide hop
      clear hpf hop HN HPE HPY HPN HTK HS2
      have t59 := u8_beq (p.getD i 0) 59
      change (((p.getD i 0).toNat : Int) == 59) = _ at t59
      have t40 := u8_beq (p.getD i 0) 40
      change (((p.getD i 0).toNat : Int) == 40) = _ at t40
      have t41 := u8_beq (p.getD i 0) 41
      change (((p.getD i 0).toNat : Int) == 41) = _ at t41
      have t124 := u8_beq (p.getD i 0) 124
      change (((p.getD i 0).toNat : Int) == 124) = _ at t124
      have t60 := u8_beq (p.getD i 0) 60
      change (((p.getD i 0).toNat : Int) == 60) = _ at t60
      have t62 := u8_beq (p.getD i 0) 62
      change (((p.getD i 0).toNat : Int) == 62) = _ at t62
      generalize p.getD i 0 = c at *
      unfold opOne at HOP
      cases b59 : (c == 59) with
      | true =>
        rw [b59] at t59
        have HX : Hid (OP = 1) := hide (by rw [HOP.out]; simp [b59])
        clear HOP b59 t40 t41 t124 t60 t62
        go_wp2_with fail
        go_ret
        exact ⟨by rw [HX.out]; first | done | rfl, by rw [HBE.out]; exact HB.out⟩
      | false =>
      rw [b59] at t59
      cases b40 : (c == 40) with
      | true =>
        rw [b40] at t40
        have HX : Hid (OP = 1) := hide (by rw [HOP.out]; simp [b40])
        clear HOP b59 b40 t41 t124 t60 t62
        go_wp2_with fail
        go_ret
        exact ⟨by rw [HX.out]; first | done | rfl, by rw [HBE.out]; exact HB.out⟩
      | false =>
      rw [b40] at t40
      cases b41 : (c == 41) with
      | true =>
        rw [b41] at t41
        have HX : Hid (OP = 1) := hide (by rw [HOP.out]; simp [b41])
        clear HOP b59 b40 b41 t124 t60 t62
        go_wp2_with fail
        go_ret
        exact ⟨by rw [HX.out]; first | done | rfl, by rw [HBE.out]; exact HB.out⟩
      | false =>
      rw [b41] at t41
      cases b124 : (c == 124) with
      | true =>
        rw [b124] at t124
        have HX : Hid (OP = 1) := hide (by rw [HOP.out]; simp [b124])
        clear HOP b59 b40 b41 b124 t60 t62
        go_wp2_with fail
        go_ret
        exact ⟨by rw [HX.out]; first | done | rfl, by rw [HBE.out]; exact HB.out⟩
      | false =>
      rw [b124] at t124
      cases b60 : (c == 60) with
      | true =>
        rw [b60] at t60
        have HX : Hid (OP = 1) := hide (by rw [HOP.out]; simp [b60])
        clear HOP b59 b40 b41 b124 b60 t62
        go_wp2_with fail
        go_ret
        exact ⟨by rw [HX.out]; first | done | rfl, by rw [HBE.out]; exact HB.out⟩
      | false =>
      rw [b60] at t60
      cases b62 : (c == 62) with
      | true =>
        rw [b62] at t62
        have HX : Hid (OP = 1) := hide (by rw [HOP.out]; simp [b62])
        clear HOP b59 b40 b41 b124 b60 b62
        go_wp2_with fail
        go_ret
        exact ⟨by rw [HX.out]; first | done | rfl, by rw [HBE.out]; exact HB.out⟩
      | false =>
      rw [b62] at t62
      have HX : Hid (OP = 0) := hide (by rw [HOP.out]; simp [b59, b40, b41, b124, b60, b62])
      clear HOP b59 b40 b41 b124 b60 b62
      go_wp2_with fail
      go_ret
      exact ⟨by rw [HX.out]; first | done | rfl, by rw [HBE.out]; exact HB.out⟩
end Go.Proofs.YtpfcfcbljkdkhaaDoor
