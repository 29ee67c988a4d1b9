/- The law LexRises: the walk. -/
import Derived.Test.YtpfcfcbljkdkhaaDoorLawR0
import Derived.Test.YtpfcfcbljkdkhaaDoorLexQ
namespace Go.Proofs.YtpfcfcbljkdkhaaDoor
open Go.RowKit
set_option linter.unusedVariables false
set_option maxRecDepth 100000 in
set_option maxHeartbeats 16000000 in
theorem rises_law (p : LB) (w : World) (hstd : Std w) (h0 : 0 < w.heap.size) : Calls Tryd.prog 4 #[.string ⟨p.toArray⟩] w fun e w' => e = .returned (.bool true) ∧ Below w.heap.size w w' := by
  have XH := hide (fun W (h1 : Std W) (h2 : 0 < W.heap.size) => heads_any W h1 h2)
  by_cases hbig : 5000 < p.length
  · have k1 : (5000 : Int) < (p.length : Int) := by omega
    have HSTD := hide hstd
    clear hstd
    go_enter Tryd.func4, Tryd.ntmps4
    go_wp2_with fail
    refine (XH.out _ HSTD.out h0).mono ?_
    rintro e w1 ⟨rfl, hb⟩
    have HB := hide hb
    clear hb
    go_wp2_with fail
    go_ret
    exact ⟨rfl, HB.out⟩
  have k1 : ¬ (5000 : Int) < (p.length : Int) := by omega
  have XS := hide (scan_any p w hstd h0 (by omega))
  have hout := scanP_out p
  obtain ⟨R, hR⟩ : ∃ R, scanP p = R := ⟨_, rfl⟩
  rw [hR] at XS hout
  obtain ⟨ts, code, fa⟩ := R
  have HSTD := hide hstd
  have HOUT := hide hout
  clear hR hstd hout
  obtain ⟨b, hb⟩ : ∃ b, w.heap.size = b := ⟨_, rfl⟩
  have HBE := hide hb
  rw [hb] at h0
  clear hb
  go_enter Tryd.func4, Tryd.ntmps4
  go_wp2_with fail
  refine XS.out.mono ?_
  rintro e w1 ⟨A, n, c, rfl, ht1, hb1⟩
  dsimp only at ht1
  have hn1 := ht1.len
  rw [HBE.out] at ht1 hb1
  have HT1 := hide ht1
  have HB1 : Hid (Below b w w1) := hide hb1
  have hz1 : b ≤ w1.heap.size := by rw [← HBE.out]; exact hb1.size
  have HN1 := hide hn1
  clear ht1 hb1 hn1 XS
  rcases HOUT.out with ⟨o1, o2, o3⟩ | ⟨o1, o2, o3, o4, o5⟩
  · dsimp only at o1 o2 o3
    have hn0 : n = 0 := by rw [← HN1.out, o2]; rfl
    subst hn0
    have hcz : ((code : Int) == 0) = false := beq_eq_false_iff_ne.2 (by omega)
    have hcn : ((code : Int) != 0) = true := by rw [bne, hcz]; rfl
    have k2 : (0 : Int) ≤ (fa : Int) := by omega
    have k3 : (fa : Int) ≤ (p.length : Int) := by omega
    clear o1 o2 HOUT
    go_wp2_with fail
    refine (XH.out _ (by exact HSTD.out.below (by rw [HBE.out]; exact HB1.out.alloc hz1 _)) (by simp)).mono ?_
    rintro e w2 ⟨rfl, hb2⟩
    have HB2 : Hid (Below b w w2) := hide ((HB1.out.alloc hz1 _).trans (hb2.mono (by simp; omega)))
    clear hb2
    go_wp2_with fail
    go_ret
    exact ⟨rfl, by rw [HBE.out]; exact HB2.out⟩
  · dsimp only at o1 o2 o3 o4 o5
    have HLK := hide (fun i (hi : i < ts.length) => last_kind o5 hi)
    have HR0 : Hid (Rise p 0 ((ts.map key).drop 0) p.length) := hide o3
    have hcn : ((code : Int) != 0) = false := by rw [o1]; rfl
    have hn5 : n ≤ 5001 := by have := HN1.out; omega
    clear o1 o2 o3 o4 o5 HOUT
    go_wp2_with fail
    obtain ⟨W0, hW0⟩ : ∃ W, w1.alloc (.cells #[.int .i64 (code : Int), .int .i64 (fa : Int)] 26) = W := ⟨_, rfl⟩
    have HT0 : Hid (To b W0 A n c ts) := hide (by rw [← hW0]; exact HT1.out.alloc _)
    have HB0 : Hid (Below b w W0) := hide (by rw [← hW0]; exact HB1.out.alloc hz1 _)
    try rw [hW0]
    clear hW0
    go_loopw [5, 6] (fun u5 u6 wx => ∃ (e0 i : Nat), u5 = .int .i64 e0 ∧ u6 = .int .i64 i ∧ i ≤ n ∧ e0 ≤ p.length ∧ Hid (To b wx A n c ts) ∧ Hid (Below b w wx) ∧ Hid (Rise p e0 ((ts.map key).drop i) p.length)) (fun _ u6 _ => n - (intOf u6).toNat)
    case atStart => exact ⟨0, 0, rfl, rfl, Nat.zero_le _, Nat.zero_le _, HT0, HB0, HR0⟩
    case round =>
      clear HT0 HB0 HR0
      obtain ⟨e0, i, rfl, rfl, hin, he0, HT, HB, HR⟩ := hrel
      have hbw : b ≤ wr.heap.size := by rw [← HBE.out]; exact HB.out.size
      by_cases hlt : i < n
      · have hil : i < ts.length := by have := HN1.out; omega
        obtain ⟨r1, r2, r3, r4, r5⟩ := rise_at hil HR.out
        have hlk := HLK.out i hil
        obtain ⟨gr, hgr, _⟩ := To.addr (s := ⟨0, ts, [], 0⟩) HT.out (by omega)
        subst hgr
        have q0 := To.cell HT.out hil 0 (by omega)
        have q1 := To.cell HT.out hil 1 (by omega)
        have q2 := To.cell HT.out hil 2 (by omega)
        have q3 := To.cell HT.out hil 3 (by omega)
        have q4 := To.cell HT.out hil 4 (by omega)
        generalize ts[i] = t at *
        obtain ⟨tk, tx, ta, td, tq⟩ := t
        dsimp only [tokV, sv] at q0 q1 q2 q3 q4 r1 r2 r3 r4 r5 hlk
        simp only [List.getElem?_cons_zero, List.getElem?_cons_succ, Nat.add_zero] at q0 q1 q2 q3 q4
        have hsl := sl_two p ta (ta + tx.length) (ta : Int) ((ta : Int) + (tx.length : Int)) rfl (by omega) (by omega) r2
        rw [Nat.add_sub_cancel_left, r3] at hsl
        have hia : ∀ W, (Instr.indexAt 23 (.slice (some ⟨gr, 0, none⟩) n c) (.int .i64 (i : Int))).run Tryd.prog W = .ok (.pointer (some ⟨gr, i * 5, none⟩)) W := fun W => tok_at gr n c i (i : Int) rfl hlt W
        have k2 : (i : Int) < (n : Int) := by omega
        have k3 : ¬ (ta : Int) < (e0 : Int) := by omega
        have k4 : ¬ ((p.length : Int) - (tx.length : Int)) < (ta : Int) := by omega
        have kd1 : decide (ta < e0) = false := decide_eq_false (by omega)
        have kd2 : decide ((ta : Int) < (e0 : Int)) = false := decide_eq_false (by omega)
        have kd3 : decide (((p.length : Int) - (tx.length : Int)) < (ta : Int)) = false := decide_eq_false (by omega)
        have kw1 : IntKind.i64.wrap ((p.length : Int) - (tx.length : Int)) = (p.length : Int) - (tx.length : Int) := by simp [IntKind.wrap, IntKind.bits, IntKind.signed]; omega
        have kw2 : IntKind.i64.wrap ((ta : Int) + (tx.length : Int)) = (ta : Int) + (tx.length : Int) := by simp [IntKind.wrap, IntKind.bits, IntKind.signed]; omega
        have kw3 : IntKind.i64.wrap ((n : Int) - 1) = (n : Int) - 1 := by simp [IntKind.wrap, IntKind.bits, IntKind.signed]; omega
        have kx : (tx != tx) = false := by simp
        have k5 : ((tk : Int) == 5) = decide (i + 1 = n) := by
          have hle : ts.length = n := HN1.out
          rw [hle] at hlk
          rw [Bool.eq_iff_iff, beq_iff_eq, decide_eq_true_eq, ← hlk]
          omega
        have k6 : ((i : Int) == (n : Int) - 1) = decide (i + 1 = n) := by
          rw [Bool.eq_iff_iff, beq_iff_eq, decide_eq_true_eq]
          omega
        have HR5 := hide r5
        have HCH := hide r4
        clear HR r3 r4 r5 hlk hil
        have XK := hide (fun W x (hx : x < p.length) => skipE_nat p x W hx (by omega))
        cases hdd : decide (i + 1 = n) with
        | true =>
          rw [hdd] at k5 k6
          have hd1 : i + 1 = n := of_decide_eq_true hdd
          have htk : tk = 5 := by have := beq_iff_eq.1 k5; omega
          have kne : ((tk : Int) != 1) = true := by rw [htk]; rfl
          clear hdd hd1 htk
          go_wp2_with fail
          go_quiet (fail)
          go_wp2_with fail
          go_roundw
          case rel => exact ⟨ta + tx.length, i + 1, by go_num, by go_num, by omega, by omega, hide ((HT.out.alloc _).below ⟨rfl, rfl, rfl, Nat.le_refl _, fun _ _ => rfl⟩), hide (belowN _ (HB.out.alloc hbw _)), HR5⟩
          case measure => simp [intOf]; omega
        | false =>
          rw [hdd] at k5 k6
          clear hdd
          by_cases htk : tk = 1
          · have kne : ((tk : Int) != 1) = false := by rw [htk]; rfl
            have HC := hide (HCH.out htk)
            clear htk HCH
            go_wp2_with fail
            go_quiet (fail)
            go_wp2_with fail
            have HT1' : Hid (∀ W, Below wr.heap.size wr W → To b W (some ⟨gr, 0, none⟩) n c ts) := hide fun W h => HT.out.below h
            go_loopw [8] (fun u8 wx => ∃ x : Nat, u8 = .int .i64 x ∧ Hid (Chain p x (ta + tx.length)) ∧ Hid (Below wr.heap.size wr wx)) (fun u8 _ => p.length - (intOf u8).toNat)
            case atStart => exact ⟨ta, rfl, HC, hide (belowN _ ((Below.refl _ _).alloc (Nat.le_refl _) _))⟩
            case round =>
              clear HC
              rename_i wr2
              obtain ⟨x, rfl, HC, HBX⟩ := hrel
              have hxe := HC.out.le
              by_cases hxl : x < ta + tx.length
              · obtain ⟨s1, s2, s3⟩ := HC.out.next hxl
                have s4 := s3.le
                have XK1 := XK.out
                have XK2 : Hid (∀ W, Calls Tryd.prog 9 #[.string ⟨p.toArray⟩, .int .i64 (x : Int)] W fun e w' => e = .returned (.tuple #[.int .i64 (((skipP p x).1 : Nat) : Int), .bool true]) ∧ Below W.heap.size W w') := hide fun W => by
                  have := XK1 W x (by omega)
                  rw [s1] at this
                  exact this
                obtain ⟨y, hy⟩ : ∃ y, (skipP p x).1 = y := ⟨_, rfl⟩
                rw [hy] at s2 s3 s4 XK2
                have HC2 := hide s3
                have l1 : (x : Int) < (ta : Int) + (tx.length : Int) := by omega
                have l2 : ¬ (y : Int) ≤ (x : Int) := by omega
                clear hy s3 s1 XK1 HC
                go_wp2_with fail
                refine (XK2.out _).mono ?_
                rintro e w2 ⟨rfl, hb2⟩
                have HB2 := hide (HBX.out.trans (hb2.mono HBX.out.size))
                clear hb2
                go_wp2_with fail
                go_roundw
                case rel => exact ⟨y, rfl, HC2, HB2⟩
                case measure => simp [intOf]; omega
              · have l1 : ¬ (x : Int) < (ta : Int) + (tx.length : Int) := by omega
                have l2 : ((x : Int) == (ta : Int) + (tx.length : Int)) = true := beq_iff_eq.2 (by omega)
                have l3 : ((x : Int) != (ta : Int) + (tx.length : Int)) = false := by rw [bne, l2]; rfl
                clear HC
                go_wp2_with fail
                go_roundw
                case rel => exact ⟨ta + tx.length, i + 1, by go_num, by go_num, by omega, by omega, hide (HT1'.out _ HBX.out), hide (HB.out.trans (HBX.out.mono hbw)), HR5⟩
                case measure => simp [intOf]; omega
          · have kne : ((tk : Int) != 1) = true := by rw [bne_iff_ne]; omega
            clear htk HCH
            go_wp2_with fail
            go_quiet (fail)
            go_wp2_with fail
            go_roundw
            case rel => exact ⟨ta + tx.length, i + 1, by go_num, by go_num, by omega, by omega, hide ((HT.out.alloc _).below ⟨rfl, rfl, rfl, Nat.le_refl _, fun _ _ => rfl⟩), hide (belowN _ (HB.out.alloc hbw _)), HR5⟩
            case measure => simp [intOf]; omega
      · have hi2 : ¬ (i : Int) < (n : Int) := by omega
        have k7 : (e0 : Int) ≤ (p.length : Int) := by omega
        clear HR
        go_wp2_with fail
        refine (XH.out _ (by exact HSTD.out.below (by rw [HBE.out]; exact HB.out)) (by omega)).mono ?_
        rintro e w2 ⟨rfl, hb2⟩
        have HB2 : Hid (Below b w w2) := hide (HB.out.trans (hb2.mono hbw))
        clear hb2
        go_wp2_with fail
        go_ret
        exact ⟨rfl, by rw [HBE.out]; exact HB2.out⟩
end Go.Proofs.YtpfcfcbljkdkhaaDoor
