/- The law LexApart: the walk. -/
import Derived.Test.YtpfcfcbljkdkhaaDoorLawA0
import Derived.Test.YtpfcfcbljkdkhaaDoorLexQ
namespace Go.Proofs.YtpfcfcbljkdkhaaDoor
open Go.RowKit
set_option linter.unusedVariables false
theorem cat_l (a b : LB) : (⟨a.toArray⟩ ++ ⟨b.toArray⟩ ++ ⟨#[32]⟩ : ByteArray) = ⟨(a ++ (b ++ [32])).toArray⟩ := by
  apply ByteArray.ext
  rw [ByteArray.data_append, ByteArray.data_append]
  simp
set_option maxRecDepth 100000 in
set_option maxHeartbeats 16000000 in
theorem apart_law (p : LB) (w : World) (hstd : Std w) (h0 : 0 < w.heap.size) : Calls Tryd.prog 5 #[.string ⟨p.toArray⟩] w fun e w' => e = .returned (.bool true) ∧ Below w.heap.size w w' := by
  have XH := hide (fun W (h1 : Std W) (h2 : 0 < W.heap.size) => heads_any W h1 h2)
  have HSTD := hide hstd
  by_cases hbig : 2000 < p.length
  · have k1 : (2000 : Int) < (p.length : Int) := by omega
    clear hstd
    go_enter Tryd.func5, Tryd.ntmps5
    go_wp2_with fail
    refine (XH.out _ HSTD.out h0).mono ?_
    rintro e w1 ⟨rfl, hb⟩
    have HB := hide hb
    clear hb
    go_wp2_with fail
    go_ret
    exact ⟨rfl, HB.out⟩
  have k1 : ¬ (2000 : Int) < (p.length : Int) := by omega
  have XS := hide (scan_any p w hstd h0 (by omega))
  have hout := scanP_out p
  have hend := scanP_end p
  have hgood : p.getD (p.length - 1) 0 ≠ 92 → _ := fun h => scanP_good (s := p) h
  have HX : Hid ((p.length = 0 ∧ ¬ (0 : Int) < (p.length : Int)) ∨ ((0 : Int) < (p.length : Int) ∧ ∀ W, (Instr.index 9 (.string ⟨p.toArray⟩) (.int .i64 ((p.length : Int) - 1))).run Tryd.prog W = .ok (.int .u8 ((p.getD (p.length - 1) 0).toNat : Int)) W)) := hide (by
    rcases Nat.eq_zero_or_pos p.length with hz | hz
    · exact .inl ⟨hz, by omega⟩
    · refine .inr ⟨by omega, ?_⟩
      have := ix_l p (p.length - 1) (p.getD (p.length - 1) 0) (getD_some (by omega))
      rw [show ((p.length - 1 : Nat) : Int) = (p.length : Int) - 1 by omega] at this
      exact this)
  have t92 := u8_beq (p.getD (p.length - 1) 0) 92
  change (((p.getD (p.length - 1) 0).toNat : Int) == 92) = _ at t92
  have kw0 : IntKind.i64.wrap ((p.length : Int) - 1) = (p.length : Int) - 1 := by simp [IntKind.wrap, IntKind.bits, IntKind.signed]; omega
  obtain ⟨x, hx⟩ : ∃ x, p.getD (p.length - 1) 0 = x := ⟨_, rfl⟩
  rw [hx] at hgood HX t92
  have hx0 : p.length = 0 → x = 0 := fun h => by rw [← hx]; cases p with | nil => rfl | cons => simp at h
  obtain ⟨R, hR⟩ : ∃ R, scanP p = R := ⟨_, rfl⟩
  rw [hR] at XS hout hend hgood
  obtain ⟨ts, code, fa⟩ := R
  have HOUT := hide hout
  have HEND := hide hend
  have HG := hide hgood
  obtain ⟨b, hb⟩ : ∃ b, w.heap.size = b := ⟨_, rfl⟩
  have HBE := hide hb
  rw [hb] at h0
  clear hR hstd hout hend hgood hb hx
  by_cases hc : x = 92
  · have hxe : ((x.toNat : Int) == 92) = true := by rw [t92, hc]; rfl
    rcases HX.out with ⟨hz, _⟩ | ⟨k2, hix⟩
    · rw [hx0 hz] at hc; exact absurd hc (by decide)
    clear t92 hc HX HG HOUT HEND XS
    go_enter Tryd.func5, Tryd.ntmps5
    go_wp2_with fail
    refine (XH.out _ HSTD.out (by rw [HBE.out]; exact h0)).mono ?_
    rintro e w1 ⟨rfl, hb⟩
    have HB := hide hb
    clear hb
    go_wp2_with fail
    go_ret
    exact ⟨rfl, HB.out⟩
  have hxe : ((x.toNat : Int) == 92) = false := by rw [t92]; exact beq_eq_false_iff_ne.2 hc
  have HGD := hide (HG.out hc)
  clear t92 hc HG hx0
  have HXO := HX.out
  clear HX
  go_enter Tryd.func5, Tryd.ntmps5
  rcases HXO with ⟨_, k2⟩ | ⟨k2, hix⟩
  all_goals
    go_wp2_with fail
    refine XS.out.mono ?_
    rintro e w1 ⟨A, n, c, rfl, ht1, hb1⟩
    dsimp only at ht1
    have hn1 := ht1.len
    rw [HBE.out] at ht1 hb1
    have HT1 := hide ht1
    have HB1 : Hid (Below b w w1) := hide hb1
    have hz1 : b ≤ w1.heap.size := by rw [← HBE.out]; exact hb1.size
    have HN1 := hide hn1
    clear ht1 hb1 hn1 XS
    rcases HOUT.out with ⟨o1, o2, o3⟩ | ⟨o1, o2, o3, o4, o5⟩
    · dsimp only at o1 o2 o3
      have hcz : ((code : Int) == 0) = false := beq_eq_false_iff_ne.2 (by omega)
      have hcn : ((code : Int) != 0) = true := by rw [bne, hcz]; rfl
      clear o1 o2 HOUT HEND HGD
      go_wp2_with fail
      refine (XH.out _ (by exact HSTD.out.below (by rw [HBE.out]; exact HB1.out.alloc hz1 _)) (by simp)).mono ?_
      rintro e w2 ⟨rfl, hb2⟩
      have HB2 : Hid (Below b w w2) := hide ((HB1.out.alloc hz1 _).trans (hb2.mono (by simp; omega)))
      clear hb2
      go_wp2_with fail
      go_ret
      exact ⟨rfl, by rw [HBE.out]; exact HB2.out⟩
    · dsimp only at o1 o2 o3 o4 o5
      have HLK := hide (fun i (hi : i < ts.length) => last_kind o5 hi)
      have HEN := hide (HEND.out o1)
      have HO5 := hide o5
      have HR0 : Hid (Rise p 0 (ts.map key) p.length) := hide o3
      have hcn : ((code : Int) != 0) = false := by rw [o1]; rfl
      have hn5 : n ≤ 2001 := by have := HN1.out; omega
      have hn0 : 1 ≤ n := by have := HN1.out; obtain ⟨us, t, h, _⟩ := o5; rw [h] at this; simp at this; omega
      clear o1 o2 o3 o4 o5 HOUT HEND
      go_wp2_with fail
      obtain ⟨W0, hW0⟩ : ∃ W, w1.alloc (.cells #[.int .i64 (code : Int), .int .i64 (fa : Int)] 26) = W := ⟨_, rfl⟩
      have HT0 : Hid (To b W0 A n c ts) := hide (by rw [← hW0]; exact HT1.out.alloc _)
      have HB0 : Hid (Below b w W0) := hide (by rw [← hW0]; exact HB1.out.alloc hz1 _)
      try rw [hW0]
      clear hW0
      have kw3 : IntKind.i64.wrap ((n : Int) - 1) = (n : Int) - 1 := by simp [IntKind.wrap, IntKind.bits, IntKind.signed]; omega
      have HTX : ∀ i, i ≤ n → (joinT (ts.take i)).length ≤ 4001 := fun i hi => by have := join_len HR0.out i; omega
      have HTX := hide HTX
      go_loopw [5, 6] (fun u5 u6 wx => ∃ (i : Nat), u5 = .string ⟨(joinT (ts.take i)).toArray⟩ ∧ u6 = .int .i64 i ∧ i + 1 ≤ n ∧ wx = W0 ∧ Hid (∀ u ∈ ts.take i, Plain u)) (fun _ u6 _ => n - (intOf u6).toNat)
      case atStart => exact ⟨0, rfl, rfl, by omega, rfl, hide (by simp)⟩
      case round =>
        obtain ⟨i, rfl, rfl, hin, rfl, HPL⟩ := hrel
        have hbw : b ≤ wr.heap.size := by rw [← HBE.out]; exact HB0.out.size
        by_cases hlt : i + 1 < n
        · have hil : i < ts.length := by have := HN1.out; omega
          have hlk := HLK.out i hil
          have hgd := HGD.out ts[i] (List.getElem_mem hil)
          have hjn := join_next hil
          have hpn := plain_next hil HPL.out
          have hle := HTX.out (i + 1) (by omega)
          obtain ⟨gr, hgr, _⟩ := To.addr (s := ⟨0, ts, [], 0⟩) HT0.out (by omega)
          subst hgr
          have q0 := To.cell HT0.out hil 0 (by omega)
          have q1 := To.cell HT0.out hil 1 (by omega)
          have hsz : (joinT (ts.take i)).length + ts[i].text.length + 1 ≤ 4001 := by rw [hjn] at hle; simp at hle; omega
          have hll : ts.length = n := HN1.out
          have HJN := hide hjn
          generalize ts[i] = t at *
          clear hjn
          obtain ⟨J, hJ⟩ : ∃ J, joinT (ts.take i) = J := ⟨_, rfl⟩
          rw [hJ] at hsz HJN ⊢
          clear hJ
          obtain ⟨tk, tx, ta, td, tq⟩ := t
          dsimp only [tokV, sv] at q0 q1 hlk hgd hpn HJN hsz
          simp only [List.getElem?_cons_zero, List.getElem?_cons_succ, Nat.add_zero] at q0 q1
          have hia : ∀ W, (Instr.indexAt 23 (.slice (some ⟨gr, 0, none⟩) n c) (.int .i64 (i : Int))).run Tryd.prog W = .ok (.pointer (some ⟨gr, i * 5, none⟩)) W := fun W => tok_at gr n c i (i : Int) rfl (by omega) W
          have k4 : (i : Int) < (n : Int) - 1 := by omega
          have k3 : (i : Int) < (n : Int) := by omega
          have ks1 : ¬ 9223372036854775807 < J.length + tx.length := by omega
          have ks2 : ¬ 9223372036854775807 < J.length + tx.length + 1 := by omega
          by_cases hk : tk = 1 ∨ tk = 2
          · by_cases hx : tx = [60, 60]
            · have hxb : (tx == [60, 60]) = true := beq_iff_eq.2 hx
              have kn : ((tk : Int) != 1) = false ∨ (((tk : Int) != 1) = true ∧ ((tk : Int) != 2) = false) := by
                rcases hk with rfl | rfl
                · exact .inl rfl
                · exact .inr ⟨rfl, rfl⟩
              clear hk hx hpn hgd hlk
              rcases kn with kn | ⟨kn, kn2⟩
              all_goals
                go_wp2_with fail
                refine (XH.out _ (by exact HSTD.out.below (by rw [HBE.out]; exact HB0.out)) (by omega)).mono ?_
                rintro e w2 ⟨rfl, hb2⟩
                have HB2 : Hid (Below b w w2) := hide (HB0.out.trans (hb2.mono hbw))
                clear hb2
                go_wp2_with fail
                go_ret
                exact ⟨rfl, by rw [HBE.out]; exact HB2.out⟩
            · have hxb : (tx == [60, 60]) = false := beq_eq_false_iff_ne.2 hx
              have HP2 := hide (hpn ⟨hk, hgd hk, hx⟩)
              have kn : ((tk : Int) != 1) = false ∨ (((tk : Int) != 1) = true ∧ ((tk : Int) != 2) = false) := by
                rcases hk with rfl | rfl
                · exact .inl rfl
                · exact .inr ⟨rfl, rfl⟩
              clear hk hx hpn hgd hlk
              rcases kn with kn | ⟨kn, kn2⟩
              all_goals
                go_wp2_with fail
                go_roundw
                case rel => exact ⟨i + 1, by rw [HJN.out]; exact congrArg Value.string (cat_l J tx), by go_num, by omega, by trivial, HP2⟩
                case measure => simp [intOf]; omega
          · have kn : ((tk : Int) != 1) = true := by rw [bne_iff_ne]; omega
            have kn2 : ((tk : Int) != 2) = true := by rw [bne_iff_ne]; omega
            clear hpn hgd hlk
            go_wp2_with fail
            refine (XH.out _ (by exact HSTD.out.below (by rw [HBE.out]; exact HB0.out)) (by omega)).mono ?_
            rintro e w2 ⟨rfl, hb2⟩
            have HB2 : Hid (Below b w w2) := hide (HB0.out.trans (hb2.mono hbw))
            clear hb2
            go_wp2_with fail
            go_ret
            exact ⟨rfl, by rw [HBE.out]; exact HB2.out⟩
        · have hll : ts.length = n := HN1.out
          obtain rfl : i = ts.length - 1 := by omega
          obtain ⟨out, e1, e2, e3⟩ := apart_back (p := p) HEN.out HO5.out HPL.out (by have := HTX.out (ts.length - 1) (by omega); omega)
          have hjl := HTX.out (ts.length - 1) (by omega)
          have k4 : ¬ ((ts.length - 1 : Nat) : Int) < (n : Int) - 1 := by omega
          obtain ⟨J, hJ⟩ : ∃ J, joinT (ts.take (ts.length - 1)) = J := ⟨_, rfl⟩
          rw [hJ] at e1 hjl ⊢
          have XS2 := scan_any J wr (by exact HSTD.out.below (by rw [HBE.out]; exact HB0.out)) (by omega) (by omega)
          rw [e1] at XS2
          have XS2 := hide XS2
          have HE3 := hide e3
          have HE2 := hide e2
          clear e1 e3 e2 hJ HPL
          go_wp2_with fail
          refine XS2.out.mono ?_
          rintro e w2 ⟨A2, n2, c2, rfl, ht2, hb2⟩
          dsimp only at ht2
          have hn2 := ht2.len
          have HT2 : Hid (To wr.heap.size w2 A2 n2 c2 out) := hide ht2
          have HT3 : Hid (To b w2 A n c ts) := hide (HT0.out.below hb2)
          have HB2 : Hid (Below b w w2) := hide (HB0.out.trans (hb2.mono hbw))
          have hbw2 : b ≤ w2.heap.size := by rw [← HBE.out]; exact HB2.out.size
          obtain rfl : n2 = n := by have := HE2.out; omega
          have HN2 := hide hn2
          clear ht2 hb2 hn2 XS2 HT0 HT1 HB0 HB1
          go_wp2_with fail
          obtain ⟨W1, hW1⟩ : ∃ W, w2.alloc (.cells #[.int .i64 0, .int .i64 0] 26) = W := ⟨_, rfl⟩
          have HT4 : Hid (To b W1 A n2 c ts) := hide (by rw [← hW1]; exact HT3.out.alloc _)
          have HT5 : Hid (To wr.heap.size W1 A2 n2 c2 out) := hide (by rw [← hW1]; exact HT2.out.alloc _)
          have HB4 : Hid (Below b w W1) := hide (by rw [← hW1]; exact HB2.out.alloc hbw2 _)
          have hbw3 : b ≤ W1.heap.size := by rw [← HBE.out]; exact HB4.out.size
          try rw [hW1]
          obtain ⟨B2, hB2⟩ : ∃ B, wr.heap.size = B := ⟨_, rfl⟩
          rw [hB2] at HT5
          clear hB2
          clear hW1 HT2 HT3 HB2 HTX
          go_loopw [9] (fun u9 wx => ∃ (i : Nat), u9 = .int .i64 i ∧ i ≤ n2 ∧ Hid (To b wx A n2 c ts) ∧ Hid (To B2 wx A2 n2 c2 out) ∧ Hid (Below b w wx)) (fun u9 _ => n2 - (intOf u9).toNat)
          case atStart => exact ⟨0, rfl, Nat.zero_le _, HT4, HT5, HB4⟩
          case round =>
            clear HT4 HT5 HB4
            obtain ⟨i, rfl, hin2, HT, HU, HB⟩ := hrel
            have hbw4 : b ≤ wr.heap.size := by rw [← HBE.out]; exact HB.out.size
            by_cases hlt2 : i < n2
            · have hi1 : i < ts.length := by omega
              have hi2 : i < out.length := by rw [HN2.out]; exact hlt2
              obtain ⟨g1, hg1, _⟩ := To.addr (s := ⟨0, ts, [], 0⟩) HT.out (by omega)
              subst hg1
              obtain ⟨g2, hg2, _⟩ := To.addr (s := ⟨0, out, [], 0⟩) HU.out (by omega)
              subst hg2
              have q0 := To.cell HT.out hi1 0 (by omega)
              have q1 := To.cell HT.out hi1 1 (by omega)
              have r0 := To.cell HU.out hi2 0 (by omega)
              have r1 := To.cell HU.out hi2 1 (by omega)
              obtain ⟨e4, e5⟩ := HE3.out i hi2 hi1
              generalize ts[i] = t at *
              generalize out[i] = u at *
              obtain ⟨tk, tx, ta, td, tq⟩ := t
              obtain ⟨uk, ux, ua, ud, uq⟩ := u
              dsimp only at e4 e5
              subst e4
              subst e5
              dsimp only [tokV, sv] at q0 q1 r0 r1
              simp only [List.getElem?_cons_zero, List.getElem?_cons_succ, Nat.add_zero] at q0 q1 r0 r1
              have hia : ∀ W, (Instr.indexAt 23 (.slice (some ⟨g1, 0, none⟩) n2 c) (.int .i64 (i : Int))).run Tryd.prog W = .ok (.pointer (some ⟨g1, i * 5, none⟩)) W := fun W => tok_at g1 n2 c i (i : Int) rfl hlt2 W
              have hib : ∀ W, (Instr.indexAt 23 (.slice (some ⟨g2, 0, none⟩) n2 c2) (.int .i64 (i : Int))).run Tryd.prog W = .ok (.pointer (some ⟨g2, i * 5, none⟩)) W := fun W => tok_at g2 n2 c2 i (i : Int) rfl hlt2 W
              have k5 : (i : Int) < (n2 : Int) := by omega
              have k6 : ((uk : Int) != (uk : Int)) = false := by simp
              have k7 : (ux != ux) = false := by simp
              go_wp2_with fail
              go_quiet (fail)
              go_wp2_with fail
              go_roundw
              case rel => exact ⟨i + 1, by go_num, by omega, hide (HT.out.below ⟨rfl, rfl, rfl, Nat.le_refl _, fun _ _ => rfl⟩), hide (HU.out.below ⟨rfl, rfl, rfl, Nat.le_refl _, fun _ _ => rfl⟩), hide (belowN _ HB.out)⟩
              case measure => simp [intOf]; omega
            · have k5 : ¬ (i : Int) < (n2 : Int) := by omega
              go_wp2_with fail
              refine (XH.out _ (by exact HSTD.out.below (by rw [HBE.out]; exact HB.out)) (by omega)).mono ?_
              rintro e w3 ⟨rfl, hb3⟩
              have HB3 : Hid (Below b w w3) := hide (HB.out.trans (hb3.mono hbw4))
              clear hb3
              go_wp2_with fail
              go_ret
              exact ⟨rfl, by rw [HBE.out]; exact HB3.out⟩
end Go.Proofs.YtpfcfcbljkdkhaaDoor
