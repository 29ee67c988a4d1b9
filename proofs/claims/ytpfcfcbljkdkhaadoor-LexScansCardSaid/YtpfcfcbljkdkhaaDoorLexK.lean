/- The contract of (*scanner).word. -/
import Derived.Test.YtpfcfcbljkdkhaaDoorLexK0
import Derived.Test.YtpfcfcbljkdkhaaDoorLexA
import Derived.ScopeJumps
namespace Go.Proofs.YtpfcfcbljkdkhaaDoor
open Go.RowKit
set_option linter.unusedVariables false
theorem ends_mem (c : UInt8) : isEnd c = true ↔ (c = 32 ∨ c = 9 ∨ c = 10 ∨ c ∈ ([124, 38, 59, 40, 41, 60, 62] : LB)) := by
  simp [isEnd, or_assoc]
set_option maxRecDepth 100000 in
set_option maxHeartbeats 16000000 in
theorem word_any (B g : Nat) (p : LB) (s : S) (w : World) (hl : p.length ≤ 100000) (hok : SOk p s) (h : ScAt B w g p s) (hBw : B ≤ w.heap.size) :
    Calls Tryd.prog 35 #[.pointer (some ⟨g, 0, none⟩)] w fun e w' => e = .returned (.bool (wordS p s).2) ∧ ScAt B w' g p (wordS p s).1 ∧ Below B w w' := by
  obtain ⟨A, m, k, A', m', k', hS⟩ := h
  have hBg := hS.2.2.2
  obtain ⟨⟨c0, c1, c2, c3, c4⟩, f0, f1, f2, f3, f4⟩ := hS.cells
  have hgl := hS.lt
  have hR0 : wordL p (p.length + 1) s.at_ = wordL p (p.length + 1) s.at_ := rfl
  have hW : wordS p s = (if (wordL p (p.length + 1) s.at_).2 = false then ({ s with fault := (wordL p (p.length + 1) s.at_).1 }, false)
    else if (wordL p (p.length + 1) s.at_).1 = s.at_ then ({ s with fault := s.at_ }, false)
    else (addS p { s with wait := if hereT s.toks = true then s.wait ++ [s.toks.length] else s.wait } 1 ((wordL p (p.length + 1) s.at_).1 - s.at_), true)) := rfl
  have hwf := wordL_facts p (p.length + 1) s.at_ hok.1
  obtain ⟨R, hR⟩ : ∃ R, wordL p (p.length + 1) s.at_ = R := ⟨_, rfl⟩
  obtain ⟨OUT, hOUT⟩ : ∃ O, wordS p s = O := ⟨_, rfl⟩
  rw [hR] at hW hwf
  rw [hOUT] at hW ⊢
  have HR0 : Hid (R = wordL p (p.length + 1) s.at_) := hide hR.symm
  have HW := hide hW
  have HWF := hide hwf
  have HOK := hide hok
  have hat := hok.1
  have HS := hide hS
  obtain ⟨at0, hat0⟩ : ∃ a, s.at_ = a := ⟨_, rfl⟩
  have HAT := hide hat0
  rw [hat0] at c1 HR0 HWF hat
  clear hR hW hwf hok hS hOUT hat0 hR0
  obtain ⟨iI, hiI, hz0, hz1, hz2⟩ := info_parts infoInt
  have HII := hide hiI
  clear hiI
  go_enter Tryd.func35, Tryd.ntmps35
  go_wp2_with fail
  go_step3
  go_wp2_with fail
  go_step3
  go_wp2_with fail
  go_loopw [3] (fun u3 wx => ∃ (j f : Nat), u3 = .int .i64 j ∧ at0 ≤ j ∧ j ≤ p.length ∧ p.length + 1 ≤ f + j ∧ Hid (Sc B wx g p s A m k A' m' k') ∧ Hid (Below B w wx) ∧ Hid (R = wordL p f j)) (fun u3 _ => p.length - (intOf u3).toNat)
  case atStart => exact ⟨at0, p.length + 1, rfl, Nat.le_refl _, hat, by omega, HS, hide (Below.refl _ _), HR0⟩
  case round =>
    clear HR0 c0 c1 c2 c3 c4 f0 f1 f2 f3 f4 hgl HS
    obtain ⟨j, f, rfl, hja, hj, hf, HS, HB, HR⟩ := hrel
    obtain ⟨⟨c0, c1, c2, c3, c4⟩, f0, f1, f2, f3, f4⟩ := HS.out.cells
    rw [HAT.out] at c1
    have hgl := HS.out.lt
    by_cases hlt : j < p.length
    · obtain ⟨f, rfl⟩ : ∃ f', f = f' + 1 := ⟨f - 1, by omega⟩
      have hk1 : (j : Int) < (p.length : Int) := by omega
      have hix := ix_l p j (p.getD j 0) (getD_some hlt)
      have hR2 := HR.out
      unfold wordL at hR2
      rw [if_neg (by omega)] at hR2
      have P1 := hide (fun W => ixb_l [124, 38, 59, 40, 41, 60, 62] (p.getD j 0) W)
      have hm := ixb_mem [124, 38, 59, 40, 41, 60, 62] (p.getD j 0)
      have hem := ends_mem (p.getD j 0)
      have t32 := u8_beq (p.getD j 0) 32
      have t9 := u8_beq (p.getD j 0) 9
      have t10 := u8_beq (p.getD j 0) 10
      change (((p.getD j 0).toNat : Int) == 32) = _ at t32
      change (((p.getD j 0).toNat : Int) == 9) = _ at t9
      change (((p.getD j 0).toNat : Int) == 10) = _ at t10
      have P2 := hide (fun W => skip_any p j W (by omega) hl)
      have hsf := skipP_facts p j
      obtain ⟨z, hz⟩ : ∃ z, Lib.indexByte [124, 38, 59, 40, 41, 60, 62] (p.getD j 0) = z := ⟨_, rfl⟩
      rw [hz] at P1 hm
      clear hz HR
      generalize p.getD j 0 = c at *
      obtain ⟨r1, hr1⟩ : ∃ r1, (skipP p j).1 = r1 := ⟨_, rfl⟩
      obtain ⟨r2, hr2⟩ : ∃ r2, (skipP p j).2 = r2 := ⟨_, rfl⟩
      rw [hr1, hr2] at hR2 P2 hsf
      clear hr1 hr2
      have HR2 := hide hR2
      have HM := hide hm
      have HEM := hide hem
      clear hR2 hm hem
      by_cases hend : isEnd c = true
      · have HE : Hid (R = (j, true)) := hide (by rw [HR2.out, if_pos hend])
        have hcs : ((c.toNat : Int) == 32) = true ∨ (((c.toNat : Int) == 32) = false ∧ ((c.toNat : Int) == 9) = true) ∨ (((c.toNat : Int) == 32) = false ∧ ((c.toNat : Int) == 9) = false ∧ ((c.toNat : Int) == 10) = true) ∨ (((c.toNat : Int) == 32) = false ∧ ((c.toNat : Int) == 9) = false ∧ ((c.toNat : Int) == 10) = false ∧ (0 : Int) ≤ z) := by
          rw [t32, t9, t10]
          rcases HEM.out.1 hend with h | h | h | h
          · exact .inl (beq_iff_eq.2 h)
          · subst h; exact .inr (.inl ⟨by decide, by decide⟩)
          · subst h; exact .inr (.inr (.inl ⟨by decide, by decide, by decide⟩))
          · refine .inr (.inr (.inr ⟨?_, ?_, ?_, HM.out.2 h⟩))
            · rw [beq_eq_false_iff_ne]; rintro rfl; simp at h
            · rw [beq_eq_false_iff_ne]; rintro rfl; simp at h
            · rw [beq_eq_false_iff_ne]; rintro rfl; simp at h
        clear HR2 HM HEM hend t32 t9 t10
        rcases hcs with hc | ⟨hc1, hc2⟩ | ⟨hc1, hc2, hc3⟩ | ⟨hc1, hc2, hc3, hc4⟩
        · clear P1 P2
          by_cases hj0 : j = at0
          · have tj : ((j : Int) == (at0 : Int)) = true := beq_iff_eq.2 (by omega)
            have HO2 : Hid (OUT = ({ s with fault := at0 }, false)) := hide (by rw [HW.out, HE.out]; simp only [Bool.true_eq_false, if_false]; rw [if_pos (by rw [HAT.out]; exact hj0), HAT.out])
            clear HW HE hj0
            go_wp2_with fail
            try rw [Exit.noGoto_ret]
            go_ret
            exact ⟨by rw [HO2.out]; rfl, ⟨A, m, k, A', m', k', by rw [HO2.out]; exact HS.out.fault_ at0⟩, HB.out.setCell (p := ⟨g, 4, none⟩) hBg _⟩
          have tj : ((j : Int) == (at0 : Int)) = false := beq_eq_false_iff_ne.2 (by omega)
          replace HW : Hid (OUT = (addS p { s with wait := if hereT s.toks = true then s.wait ++ [s.toks.length] else s.wait } 1 (j - at0), true)) := hide (by rw [HW.out, HE.out]; simp only [Bool.true_eq_false, if_false]; rw [if_neg (by rw [HAT.out]; exact hj0), HAT.out])
          have XA := hide (fun W (q : S) (hq1 : q.at_ = at0) (hq2 : q.toks = s.toks) (hz : B ≤ W.heap.size) (hs : ScAt B W g p q) => add_any B g p q 1 (j - at0) W hl (by omega) (by rw [hq1]; omega) (by rw [hq2]; have := HOK.out.2.1; have := HOK.out.1; omega) hz hs)
          have hjc : ((j - at0 : Nat) : Int) = (j : Int) - (at0 : Int) := by omega
          rw [hjc] at XA
          clear HE hjc
          have hw6 : wrap64 ((j : Int) - (at0 : Int)) = (j : Int) - (at0 : Int) := by rw [← Go.PlainAid.i64_is]; simp [IntKind.wrap, IntKind.bits, IntKind.signed]; omega
          have hTl := HS.out.2.1.len
          rcases Nat.eq_zero_or_pos m with hm0 | hm0
          · have htk : s.toks = [] := List.eq_nil_of_length_eq_zero (by omega)
            have HO2 : Hid (OUT = (addS p s 1 (j - at0), true)) := hide (by rw [HW.out, htk]; simp only [last_nil, Bool.false_eq_true, if_false]; rw [← htk])
            have hmn : ¬ (0 : Int) < (m : Int) := by omega
            clear HW htk hTl hm0
            go_wp2_with fail
            have HZ := hide (HB.out.size)
            have HSS := hide (show ScAt B _ g p s from ⟨_, _, _, _, _, _, HS.out⟩)
            refine (XA.out _ s (by first | exact HAT.out | rfl) rfl (by have := HZ.out; omega) (by exact HSS.out)).mono ?_
            rintro e w9 ⟨rfl, hs9, hb9⟩
            have HS9 := hide hs9
            have HB9 : Hid (Below B w w9) := hide (HB.out.trans hb9)
            clear hs9 hb9
            go_wp2_with fail
            try rw [Exit.noGoto_ret]
            go_ret
            exact ⟨by rw [HO2.out]; rfl, by rw [HO2.out]; exact HS9.out, HB9.out⟩
          obtain ⟨g1, hg1, hBg1, hg1l⟩ := To.addr HS.out.2.1 hm0
          subst hg1
          have hmm : m - 1 < s.toks.length := by omega
          have ck := To.cell HS.out.2.1 hmm 0 (by omega)
          have ct := To.cell HS.out.2.1 hmm 1 (by omega)
          have hlast := last_tok s.toks (by omega)
          have hme : s.toks.length - 1 = m - 1 := by omega
          have hk5 : s.toks[m - 1].kind ≤ 9223372036854775807 ∨ True := .inr trivial
          simp only [hme] at hlast
          generalize htt : s.toks[m - 1] = tt at *
          obtain ⟨tk, tx, ta, td, tq⟩ := tt
          dsimp only [tokV, sv] at ck ct hlast
          simp only [List.getElem?_cons_zero, List.getElem?_cons_succ, Nat.add_zero] at ck ct
          have hmp : (0 : Int) < (m : Int) := by omega
          have hw7 : wrap64 ((m : Int) - 1) = (m : Int) - 1 := by rw [← Go.PlainAid.i64_is]; have := HOK.out.1; have := HOK.out.2.1; simp [IntKind.wrap, IntKind.bits, IntKind.signed]; omega
          have hn2 : (0 : Int) ≤ (m : Int) - 1 := by omega
          have hn3 : (m : Int) - 1 < (m : Int) := by omega
          have hia : ∀ W, (Instr.indexAt 23 (.slice (some ⟨g1, 0, none⟩) m k) (.int .i64 ((m : Int) - 1))).run Tryd.prog W = .ok (.pointer (some ⟨g1, (m - 1) * 5, none⟩)) W := fun W => tok_at g1 m k (m - 1) ((m : Int) - 1) (by omega) (by omega) W
          have HTL := hide hTl
          clear htt hme hTl hk5 hmm
          have tk2 : ((tk : Int) == 2) = (tk == 2) := by rw [Bool.eq_iff_iff, beq_iff_eq, beq_iff_eq]; omega
          by_cases hk2 : tk = 2
          · rw [beq_iff_eq.2 hk2] at tk2 hlast
            by_cases hx : tx = [60, 60]
            · have HO2 : Hid (OUT = (addS p { s with wait := s.wait ++ [m] } 1 (j - at0), true)) := hide (by rw [HW.out, hlast, beq_iff_eq.2 hx, HTL.out]; rfl)
              have hxb : (tx == [60, 60]) = true := beq_iff_eq.2 hx
              have hio := HS.out.2.2.1
              have hil := hio.len
              have hml : m' ≤ 100000 := by have := HOK.out.1; have := HOK.out.2.1; have := HOK.out.2.2.2.1; omega
              obtain ⟨wz, hwz⟩ : ∃ W, wr = W := ⟨_, rfl⟩
              have hbz := HB.out.size
              have hoa := World.ownsRow.alloc hio (.cells #[.int .i64 (m : Int)] 3)
              have hri := one_int wr m
              have HOA := hide hoa
              have HRI := hide hri
              clear HW hlast hx hoa hri hio hil hwz
              go_wp2_with (at_builtin; (refine wpList_append_any _ rfl (.tmp 104) (.tmp 106) 38 rfl B 3 iI _ 1 8 Tryd.underlying38 HII.out hz0 hz1 hz2 rfl (by omega) (.slice A' m' k') m' (ivs s.wait) rfl (by exact HOA.out) (wr.heap.size + 1) (some ⟨wr.heap.size, 0, none⟩) 1 1 (ivs [m]) rfl (by exact HRI.out) (ivs_one _) ?c1 ?c2 ?c3 ?_))
              case c1 => unfold maxLen; omega
              case c2 => omega
              case c3 => first | omega | (simp; omega)
              intro v1 W2 hown2 hg2 hat2
              obtain ⟨A2, x2, rfl⟩ := own_slice hown2
              have hs3 := Sc.waits HS.out hown2 hg2
              have hb3 := waits_below HS.out hg2 HB.out (by omega) (.slice A2 (m' + 1) x2)
              have hP2 := Blk.grown (h := HS.out.1.alloc _) (hb := hg2) (Ne.symm (own_blk_ne HS.out.2.2.1 HS.out.1 (by decide)))
              obtain ⟨⟨d0, d1, d2, d3, d4⟩, e0, e1, e2, e3, e4⟩ := hP2.five
              rw [HAT.out] at d1
              have hgl2 := hP2.lt
              have HS3 := hide hs3
              have HB3 := hide hb3
              clear hown2 hg2 hat2 hs3 hb3 hP2 c0 c1 c2 c3 c4 f0 f1 f2 f3 f4
              go_wp2_with fail
              have HZ := hide (HB3.out.size)
              have HSS := hide (show ScAt B _ g p { s with wait := s.wait ++ [m] } from ⟨_, _, _, _, _, _, HS3.out⟩)
              refine (XA.out _ { s with wait := s.wait ++ [m] } (by first | exact HAT.out | rfl) rfl (by have := HZ.out; omega) (by exact HSS.out)).mono ?_
              rintro e w9 ⟨rfl, hs9, hb9⟩
              have HS9 := hide hs9
              have HB9 : Hid (Below B w w9) := hide (HB3.out.trans hb9)
              clear hs9 hb9
              go_wp2_with fail
              try rw [Exit.noGoto_ret]
              go_ret
              exact ⟨by rw [HO2.out]; rfl, by rw [HO2.out]; exact HS9.out, HB9.out⟩
            · have HO2 : Hid (OUT = (addS p s 1 (j - at0), true)) := hide (by rw [HW.out, hlast, beq_eq_false_iff_ne.2 hx]; rfl)
              have hxb : (tx == [60, 60]) = false := beq_eq_false_iff_ne.2 hx
              clear HW hlast hx
              go_wp2_with fail
              have HZ := hide (HB.out.size)
              have HSS := hide (show ScAt B _ g p s from ⟨_, _, _, _, _, _, HS.out⟩)
              refine (XA.out _ s (by first | exact HAT.out | rfl) rfl (by have := HZ.out; omega) (by exact HSS.out)).mono ?_
              rintro e w9 ⟨rfl, hs9, hb9⟩
              have HS9 := hide hs9
              have HB9 : Hid (Below B w w9) := hide (HB.out.trans hb9)
              clear hs9 hb9
              go_wp2_with fail
              try rw [Exit.noGoto_ret]
              go_ret
              exact ⟨by rw [HO2.out]; rfl, by rw [HO2.out]; exact HS9.out, HB9.out⟩
          · rw [beq_eq_false_iff_ne.2 hk2] at tk2 hlast
            have HO2 : Hid (OUT = (addS p s 1 (j - at0), true)) := hide (by rw [HW.out, hlast]; rfl)
            clear HW hlast
            go_wp2_with fail
            have HZ := hide (HB.out.size)
            have HSS := hide (show ScAt B _ g p s from ⟨_, _, _, _, _, _, HS.out⟩)
            refine (XA.out _ s (by first | exact HAT.out | rfl) rfl (by have := HZ.out; omega) (by exact HSS.out)).mono ?_
            rintro e w9 ⟨rfl, hs9, hb9⟩
            have HS9 := hide hs9
            have HB9 : Hid (Below B w w9) := hide (HB.out.trans hb9)
            clear hs9 hb9
            go_wp2_with fail
            try rw [Exit.noGoto_ret]
            go_ret
            exact ⟨by rw [HO2.out]; rfl, by rw [HO2.out]; exact HS9.out, HB9.out⟩

        · clear P1 P2
          by_cases hj0 : j = at0
          · have tj : ((j : Int) == (at0 : Int)) = true := beq_iff_eq.2 (by omega)
            have HO2 : Hid (OUT = ({ s with fault := at0 }, false)) := hide (by rw [HW.out, HE.out]; simp only [Bool.true_eq_false, if_false]; rw [if_pos (by rw [HAT.out]; exact hj0), HAT.out])
            clear HW HE hj0
            go_wp2_with fail
            try rw [Exit.noGoto_ret]
            go_ret
            exact ⟨by rw [HO2.out]; rfl, ⟨A, m, k, A', m', k', by rw [HO2.out]; exact HS.out.fault_ at0⟩, HB.out.setCell (p := ⟨g, 4, none⟩) hBg _⟩
          have tj : ((j : Int) == (at0 : Int)) = false := beq_eq_false_iff_ne.2 (by omega)
          replace HW : Hid (OUT = (addS p { s with wait := if hereT s.toks = true then s.wait ++ [s.toks.length] else s.wait } 1 (j - at0), true)) := hide (by rw [HW.out, HE.out]; simp only [Bool.true_eq_false, if_false]; rw [if_neg (by rw [HAT.out]; exact hj0), HAT.out])
          have XA := hide (fun W (q : S) (hq1 : q.at_ = at0) (hq2 : q.toks = s.toks) (hz : B ≤ W.heap.size) (hs : ScAt B W g p q) => add_any B g p q 1 (j - at0) W hl (by omega) (by rw [hq1]; omega) (by rw [hq2]; have := HOK.out.2.1; have := HOK.out.1; omega) hz hs)
          have hjc : ((j - at0 : Nat) : Int) = (j : Int) - (at0 : Int) := by omega
          rw [hjc] at XA
          clear HE hjc
          have hw6 : wrap64 ((j : Int) - (at0 : Int)) = (j : Int) - (at0 : Int) := by rw [← Go.PlainAid.i64_is]; simp [IntKind.wrap, IntKind.bits, IntKind.signed]; omega
          have hTl := HS.out.2.1.len
          rcases Nat.eq_zero_or_pos m with hm0 | hm0
          · have htk : s.toks = [] := List.eq_nil_of_length_eq_zero (by omega)
            have HO2 : Hid (OUT = (addS p s 1 (j - at0), true)) := hide (by rw [HW.out, htk]; simp only [last_nil, Bool.false_eq_true, if_false]; rw [← htk])
            have hmn : ¬ (0 : Int) < (m : Int) := by omega
            clear HW htk hTl hm0
            go_wp2_with fail
            have HZ := hide (HB.out.size)
            have HSS := hide (show ScAt B _ g p s from ⟨_, _, _, _, _, _, HS.out⟩)
            refine (XA.out _ s (by first | exact HAT.out | rfl) rfl (by have := HZ.out; omega) (by exact HSS.out)).mono ?_
            rintro e w9 ⟨rfl, hs9, hb9⟩
            have HS9 := hide hs9
            have HB9 : Hid (Below B w w9) := hide (HB.out.trans hb9)
            clear hs9 hb9
            go_wp2_with fail
            try rw [Exit.noGoto_ret]
            go_ret
            exact ⟨by rw [HO2.out]; rfl, by rw [HO2.out]; exact HS9.out, HB9.out⟩
          obtain ⟨g1, hg1, hBg1, hg1l⟩ := To.addr HS.out.2.1 hm0
          subst hg1
          have hmm : m - 1 < s.toks.length := by omega
          have ck := To.cell HS.out.2.1 hmm 0 (by omega)
          have ct := To.cell HS.out.2.1 hmm 1 (by omega)
          have hlast := last_tok s.toks (by omega)
          have hme : s.toks.length - 1 = m - 1 := by omega
          have hk5 : s.toks[m - 1].kind ≤ 9223372036854775807 ∨ True := .inr trivial
          simp only [hme] at hlast
          generalize htt : s.toks[m - 1] = tt at *
          obtain ⟨tk, tx, ta, td, tq⟩ := tt
          dsimp only [tokV, sv] at ck ct hlast
          simp only [List.getElem?_cons_zero, List.getElem?_cons_succ, Nat.add_zero] at ck ct
          have hmp : (0 : Int) < (m : Int) := by omega
          have hw7 : wrap64 ((m : Int) - 1) = (m : Int) - 1 := by rw [← Go.PlainAid.i64_is]; have := HOK.out.1; have := HOK.out.2.1; simp [IntKind.wrap, IntKind.bits, IntKind.signed]; omega
          have hn2 : (0 : Int) ≤ (m : Int) - 1 := by omega
          have hn3 : (m : Int) - 1 < (m : Int) := by omega
          have hia : ∀ W, (Instr.indexAt 23 (.slice (some ⟨g1, 0, none⟩) m k) (.int .i64 ((m : Int) - 1))).run Tryd.prog W = .ok (.pointer (some ⟨g1, (m - 1) * 5, none⟩)) W := fun W => tok_at g1 m k (m - 1) ((m : Int) - 1) (by omega) (by omega) W
          have HTL := hide hTl
          clear htt hme hTl hk5 hmm
          have tk2 : ((tk : Int) == 2) = (tk == 2) := by rw [Bool.eq_iff_iff, beq_iff_eq, beq_iff_eq]; omega
          by_cases hk2 : tk = 2
          · rw [beq_iff_eq.2 hk2] at tk2 hlast
            by_cases hx : tx = [60, 60]
            · have HO2 : Hid (OUT = (addS p { s with wait := s.wait ++ [m] } 1 (j - at0), true)) := hide (by rw [HW.out, hlast, beq_iff_eq.2 hx, HTL.out]; rfl)
              have hxb : (tx == [60, 60]) = true := beq_iff_eq.2 hx
              have hio := HS.out.2.2.1
              have hil := hio.len
              have hml : m' ≤ 100000 := by have := HOK.out.1; have := HOK.out.2.1; have := HOK.out.2.2.2.1; omega
              obtain ⟨wz, hwz⟩ : ∃ W, wr = W := ⟨_, rfl⟩
              have hbz := HB.out.size
              have hoa := World.ownsRow.alloc hio (.cells #[.int .i64 (m : Int)] 3)
              have hri := one_int wr m
              have HOA := hide hoa
              have HRI := hide hri
              clear HW hlast hx hoa hri hio hil hwz
              go_wp2_with (at_builtin; (refine wpList_append_any _ rfl (.tmp 104) (.tmp 106) 38 rfl B 3 iI _ 1 8 Tryd.underlying38 HII.out hz0 hz1 hz2 rfl (by omega) (.slice A' m' k') m' (ivs s.wait) rfl (by exact HOA.out) (wr.heap.size + 1) (some ⟨wr.heap.size, 0, none⟩) 1 1 (ivs [m]) rfl (by exact HRI.out) (ivs_one _) ?c1 ?c2 ?c3 ?_))
              case c1 => unfold maxLen; omega
              case c2 => omega
              case c3 => first | omega | (simp; omega)
              intro v1 W2 hown2 hg2 hat2
              obtain ⟨A2, x2, rfl⟩ := own_slice hown2
              have hs3 := Sc.waits HS.out hown2 hg2
              have hb3 := waits_below HS.out hg2 HB.out (by omega) (.slice A2 (m' + 1) x2)
              have hP2 := Blk.grown (h := HS.out.1.alloc _) (hb := hg2) (Ne.symm (own_blk_ne HS.out.2.2.1 HS.out.1 (by decide)))
              obtain ⟨⟨d0, d1, d2, d3, d4⟩, e0, e1, e2, e3, e4⟩ := hP2.five
              rw [HAT.out] at d1
              have hgl2 := hP2.lt
              have HS3 := hide hs3
              have HB3 := hide hb3
              clear hown2 hg2 hat2 hs3 hb3 hP2 c0 c1 c2 c3 c4 f0 f1 f2 f3 f4
              go_wp2_with fail
              have HZ := hide (HB3.out.size)
              have HSS := hide (show ScAt B _ g p { s with wait := s.wait ++ [m] } from ⟨_, _, _, _, _, _, HS3.out⟩)
              refine (XA.out _ { s with wait := s.wait ++ [m] } (by first | exact HAT.out | rfl) rfl (by have := HZ.out; omega) (by exact HSS.out)).mono ?_
              rintro e w9 ⟨rfl, hs9, hb9⟩
              have HS9 := hide hs9
              have HB9 : Hid (Below B w w9) := hide (HB3.out.trans hb9)
              clear hs9 hb9
              go_wp2_with fail
              try rw [Exit.noGoto_ret]
              go_ret
              exact ⟨by rw [HO2.out]; rfl, by rw [HO2.out]; exact HS9.out, HB9.out⟩
            · have HO2 : Hid (OUT = (addS p s 1 (j - at0), true)) := hide (by rw [HW.out, hlast, beq_eq_false_iff_ne.2 hx]; rfl)
              have hxb : (tx == [60, 60]) = false := beq_eq_false_iff_ne.2 hx
              clear HW hlast hx
              go_wp2_with fail
              have HZ := hide (HB.out.size)
              have HSS := hide (show ScAt B _ g p s from ⟨_, _, _, _, _, _, HS.out⟩)
              refine (XA.out _ s (by first | exact HAT.out | rfl) rfl (by have := HZ.out; omega) (by exact HSS.out)).mono ?_
              rintro e w9 ⟨rfl, hs9, hb9⟩
              have HS9 := hide hs9
              have HB9 : Hid (Below B w w9) := hide (HB.out.trans hb9)
              clear hs9 hb9
              go_wp2_with fail
              try rw [Exit.noGoto_ret]
              go_ret
              exact ⟨by rw [HO2.out]; rfl, by rw [HO2.out]; exact HS9.out, HB9.out⟩
          · rw [beq_eq_false_iff_ne.2 hk2] at tk2 hlast
            have HO2 : Hid (OUT = (addS p s 1 (j - at0), true)) := hide (by rw [HW.out, hlast]; rfl)
            clear HW hlast
            go_wp2_with fail
            have HZ := hide (HB.out.size)
            have HSS := hide (show ScAt B _ g p s from ⟨_, _, _, _, _, _, HS.out⟩)
            refine (XA.out _ s (by first | exact HAT.out | rfl) rfl (by have := HZ.out; omega) (by exact HSS.out)).mono ?_
            rintro e w9 ⟨rfl, hs9, hb9⟩
            have HS9 := hide hs9
            have HB9 : Hid (Below B w w9) := hide (HB.out.trans hb9)
            clear hs9 hb9
            go_wp2_with fail
            try rw [Exit.noGoto_ret]
            go_ret
            exact ⟨by rw [HO2.out]; rfl, by rw [HO2.out]; exact HS9.out, HB9.out⟩

        · clear P1 P2
          by_cases hj0 : j = at0
          · have tj : ((j : Int) == (at0 : Int)) = true := beq_iff_eq.2 (by omega)
            have HO2 : Hid (OUT = ({ s with fault := at0 }, false)) := hide (by rw [HW.out, HE.out]; simp only [Bool.true_eq_false, if_false]; rw [if_pos (by rw [HAT.out]; exact hj0), HAT.out])
            clear HW HE hj0
            go_wp2_with fail
            try rw [Exit.noGoto_ret]
            go_ret
            exact ⟨by rw [HO2.out]; rfl, ⟨A, m, k, A', m', k', by rw [HO2.out]; exact HS.out.fault_ at0⟩, HB.out.setCell (p := ⟨g, 4, none⟩) hBg _⟩
          have tj : ((j : Int) == (at0 : Int)) = false := beq_eq_false_iff_ne.2 (by omega)
          replace HW : Hid (OUT = (addS p { s with wait := if hereT s.toks = true then s.wait ++ [s.toks.length] else s.wait } 1 (j - at0), true)) := hide (by rw [HW.out, HE.out]; simp only [Bool.true_eq_false, if_false]; rw [if_neg (by rw [HAT.out]; exact hj0), HAT.out])
          have XA := hide (fun W (q : S) (hq1 : q.at_ = at0) (hq2 : q.toks = s.toks) (hz : B ≤ W.heap.size) (hs : ScAt B W g p q) => add_any B g p q 1 (j - at0) W hl (by omega) (by rw [hq1]; omega) (by rw [hq2]; have := HOK.out.2.1; have := HOK.out.1; omega) hz hs)
          have hjc : ((j - at0 : Nat) : Int) = (j : Int) - (at0 : Int) := by omega
          rw [hjc] at XA
          clear HE hjc
          have hw6 : wrap64 ((j : Int) - (at0 : Int)) = (j : Int) - (at0 : Int) := by rw [← Go.PlainAid.i64_is]; simp [IntKind.wrap, IntKind.bits, IntKind.signed]; omega
          have hTl := HS.out.2.1.len
          rcases Nat.eq_zero_or_pos m with hm0 | hm0
          · have htk : s.toks = [] := List.eq_nil_of_length_eq_zero (by omega)
            have HO2 : Hid (OUT = (addS p s 1 (j - at0), true)) := hide (by rw [HW.out, htk]; simp only [last_nil, Bool.false_eq_true, if_false]; rw [← htk])
            have hmn : ¬ (0 : Int) < (m : Int) := by omega
            clear HW htk hTl hm0
            go_wp2_with fail
            have HZ := hide (HB.out.size)
            have HSS := hide (show ScAt B _ g p s from ⟨_, _, _, _, _, _, HS.out⟩)
            refine (XA.out _ s (by first | exact HAT.out | rfl) rfl (by have := HZ.out; omega) (by exact HSS.out)).mono ?_
            rintro e w9 ⟨rfl, hs9, hb9⟩
            have HS9 := hide hs9
            have HB9 : Hid (Below B w w9) := hide (HB.out.trans hb9)
            clear hs9 hb9
            go_wp2_with fail
            try rw [Exit.noGoto_ret]
            go_ret
            exact ⟨by rw [HO2.out]; rfl, by rw [HO2.out]; exact HS9.out, HB9.out⟩
          obtain ⟨g1, hg1, hBg1, hg1l⟩ := To.addr HS.out.2.1 hm0
          subst hg1
          have hmm : m - 1 < s.toks.length := by omega
          have ck := To.cell HS.out.2.1 hmm 0 (by omega)
          have ct := To.cell HS.out.2.1 hmm 1 (by omega)
          have hlast := last_tok s.toks (by omega)
          have hme : s.toks.length - 1 = m - 1 := by omega
          have hk5 : s.toks[m - 1].kind ≤ 9223372036854775807 ∨ True := .inr trivial
          simp only [hme] at hlast
          generalize htt : s.toks[m - 1] = tt at *
          obtain ⟨tk, tx, ta, td, tq⟩ := tt
          dsimp only [tokV, sv] at ck ct hlast
          simp only [List.getElem?_cons_zero, List.getElem?_cons_succ, Nat.add_zero] at ck ct
          have hmp : (0 : Int) < (m : Int) := by omega
          have hw7 : wrap64 ((m : Int) - 1) = (m : Int) - 1 := by rw [← Go.PlainAid.i64_is]; have := HOK.out.1; have := HOK.out.2.1; simp [IntKind.wrap, IntKind.bits, IntKind.signed]; omega
          have hn2 : (0 : Int) ≤ (m : Int) - 1 := by omega
          have hn3 : (m : Int) - 1 < (m : Int) := by omega
          have hia : ∀ W, (Instr.indexAt 23 (.slice (some ⟨g1, 0, none⟩) m k) (.int .i64 ((m : Int) - 1))).run Tryd.prog W = .ok (.pointer (some ⟨g1, (m - 1) * 5, none⟩)) W := fun W => tok_at g1 m k (m - 1) ((m : Int) - 1) (by omega) (by omega) W
          have HTL := hide hTl
          clear htt hme hTl hk5 hmm
          have tk2 : ((tk : Int) == 2) = (tk == 2) := by rw [Bool.eq_iff_iff, beq_iff_eq, beq_iff_eq]; omega
          by_cases hk2 : tk = 2
          · rw [beq_iff_eq.2 hk2] at tk2 hlast
            by_cases hx : tx = [60, 60]
            · have HO2 : Hid (OUT = (addS p { s with wait := s.wait ++ [m] } 1 (j - at0), true)) := hide (by rw [HW.out, hlast, beq_iff_eq.2 hx, HTL.out]; rfl)
              have hxb : (tx == [60, 60]) = true := beq_iff_eq.2 hx
              have hio := HS.out.2.2.1
              have hil := hio.len
              have hml : m' ≤ 100000 := by have := HOK.out.1; have := HOK.out.2.1; have := HOK.out.2.2.2.1; omega
              obtain ⟨wz, hwz⟩ : ∃ W, wr = W := ⟨_, rfl⟩
              have hbz := HB.out.size
              have hoa := World.ownsRow.alloc hio (.cells #[.int .i64 (m : Int)] 3)
              have hri := one_int wr m
              have HOA := hide hoa
              have HRI := hide hri
              clear HW hlast hx hoa hri hio hil hwz
              go_wp2_with (at_builtin; (refine wpList_append_any _ rfl (.tmp 104) (.tmp 106) 38 rfl B 3 iI _ 1 8 Tryd.underlying38 HII.out hz0 hz1 hz2 rfl (by omega) (.slice A' m' k') m' (ivs s.wait) rfl (by exact HOA.out) (wr.heap.size + 1) (some ⟨wr.heap.size, 0, none⟩) 1 1 (ivs [m]) rfl (by exact HRI.out) (ivs_one _) ?c1 ?c2 ?c3 ?_))
              case c1 => unfold maxLen; omega
              case c2 => omega
              case c3 => first | omega | (simp; omega)
              intro v1 W2 hown2 hg2 hat2
              obtain ⟨A2, x2, rfl⟩ := own_slice hown2
              have hs3 := Sc.waits HS.out hown2 hg2
              have hb3 := waits_below HS.out hg2 HB.out (by omega) (.slice A2 (m' + 1) x2)
              have hP2 := Blk.grown (h := HS.out.1.alloc _) (hb := hg2) (Ne.symm (own_blk_ne HS.out.2.2.1 HS.out.1 (by decide)))
              obtain ⟨⟨d0, d1, d2, d3, d4⟩, e0, e1, e2, e3, e4⟩ := hP2.five
              rw [HAT.out] at d1
              have hgl2 := hP2.lt
              have HS3 := hide hs3
              have HB3 := hide hb3
              clear hown2 hg2 hat2 hs3 hb3 hP2 c0 c1 c2 c3 c4 f0 f1 f2 f3 f4
              go_wp2_with fail
              have HZ := hide (HB3.out.size)
              have HSS := hide (show ScAt B _ g p { s with wait := s.wait ++ [m] } from ⟨_, _, _, _, _, _, HS3.out⟩)
              refine (XA.out _ { s with wait := s.wait ++ [m] } (by first | exact HAT.out | rfl) rfl (by have := HZ.out; omega) (by exact HSS.out)).mono ?_
              rintro e w9 ⟨rfl, hs9, hb9⟩
              have HS9 := hide hs9
              have HB9 : Hid (Below B w w9) := hide (HB3.out.trans hb9)
              clear hs9 hb9
              go_wp2_with fail
              try rw [Exit.noGoto_ret]
              go_ret
              exact ⟨by rw [HO2.out]; rfl, by rw [HO2.out]; exact HS9.out, HB9.out⟩
            · have HO2 : Hid (OUT = (addS p s 1 (j - at0), true)) := hide (by rw [HW.out, hlast, beq_eq_false_iff_ne.2 hx]; rfl)
              have hxb : (tx == [60, 60]) = false := beq_eq_false_iff_ne.2 hx
              clear HW hlast hx
              go_wp2_with fail
              have HZ := hide (HB.out.size)
              have HSS := hide (show ScAt B _ g p s from ⟨_, _, _, _, _, _, HS.out⟩)
              refine (XA.out _ s (by first | exact HAT.out | rfl) rfl (by have := HZ.out; omega) (by exact HSS.out)).mono ?_
              rintro e w9 ⟨rfl, hs9, hb9⟩
              have HS9 := hide hs9
              have HB9 : Hid (Below B w w9) := hide (HB.out.trans hb9)
              clear hs9 hb9
              go_wp2_with fail
              try rw [Exit.noGoto_ret]
              go_ret
              exact ⟨by rw [HO2.out]; rfl, by rw [HO2.out]; exact HS9.out, HB9.out⟩
          · rw [beq_eq_false_iff_ne.2 hk2] at tk2 hlast
            have HO2 : Hid (OUT = (addS p s 1 (j - at0), true)) := hide (by rw [HW.out, hlast]; rfl)
            clear HW hlast
            go_wp2_with fail
            have HZ := hide (HB.out.size)
            have HSS := hide (show ScAt B _ g p s from ⟨_, _, _, _, _, _, HS.out⟩)
            refine (XA.out _ s (by first | exact HAT.out | rfl) rfl (by have := HZ.out; omega) (by exact HSS.out)).mono ?_
            rintro e w9 ⟨rfl, hs9, hb9⟩
            have HS9 := hide hs9
            have HB9 : Hid (Below B w w9) := hide (HB.out.trans hb9)
            clear hs9 hb9
            go_wp2_with fail
            try rw [Exit.noGoto_ret]
            go_ret
            exact ⟨by rw [HO2.out]; rfl, by rw [HO2.out]; exact HS9.out, HB9.out⟩

        · clear P2
          go_wp2_with fail
          refine (P1.out _).mono ?_
          rintro e w1 ⟨rfl, rfl⟩
          clear P1
          by_cases hj0 : j = at0
          · have tj : ((j : Int) == (at0 : Int)) = true := beq_iff_eq.2 (by omega)
            have HO2 : Hid (OUT = ({ s with fault := at0 }, false)) := hide (by rw [HW.out, HE.out]; simp only [Bool.true_eq_false, if_false]; rw [if_pos (by rw [HAT.out]; exact hj0), HAT.out])
            clear HW HE hj0
            go_wp2_with fail
            try rw [Exit.noGoto_ret]
            go_ret
            exact ⟨by rw [HO2.out]; rfl, ⟨A, m, k, A', m', k', by rw [HO2.out]; exact HS.out.fault_ at0⟩, HB.out.setCell (p := ⟨g, 4, none⟩) hBg _⟩
          have tj : ((j : Int) == (at0 : Int)) = false := beq_eq_false_iff_ne.2 (by omega)
          replace HW : Hid (OUT = (addS p { s with wait := if hereT s.toks = true then s.wait ++ [s.toks.length] else s.wait } 1 (j - at0), true)) := hide (by rw [HW.out, HE.out]; simp only [Bool.true_eq_false, if_false]; rw [if_neg (by rw [HAT.out]; exact hj0), HAT.out])
          have XA := hide (fun W (q : S) (hq1 : q.at_ = at0) (hq2 : q.toks = s.toks) (hz : B ≤ W.heap.size) (hs : ScAt B W g p q) => add_any B g p q 1 (j - at0) W hl (by omega) (by rw [hq1]; omega) (by rw [hq2]; have := HOK.out.2.1; have := HOK.out.1; omega) hz hs)
          have hjc : ((j - at0 : Nat) : Int) = (j : Int) - (at0 : Int) := by omega
          rw [hjc] at XA
          clear HE hjc
          have hw6 : wrap64 ((j : Int) - (at0 : Int)) = (j : Int) - (at0 : Int) := by rw [← Go.PlainAid.i64_is]; simp [IntKind.wrap, IntKind.bits, IntKind.signed]; omega
          have hTl := HS.out.2.1.len
          rcases Nat.eq_zero_or_pos m with hm0 | hm0
          · have htk : s.toks = [] := List.eq_nil_of_length_eq_zero (by omega)
            have HO2 : Hid (OUT = (addS p s 1 (j - at0), true)) := hide (by rw [HW.out, htk]; simp only [last_nil, Bool.false_eq_true, if_false]; rw [← htk])
            have hmn : ¬ (0 : Int) < (m : Int) := by omega
            clear HW htk hTl hm0
            go_wp2_with fail
            have HZ := hide (HB.out.size)
            have HSS := hide (show ScAt B _ g p s from ⟨_, _, _, _, _, _, HS.out⟩)
            refine (XA.out _ s (by first | exact HAT.out | rfl) rfl (by have := HZ.out; omega) (by exact HSS.out)).mono ?_
            rintro e w9 ⟨rfl, hs9, hb9⟩
            have HS9 := hide hs9
            have HB9 : Hid (Below B w w9) := hide (HB.out.trans hb9)
            clear hs9 hb9
            go_wp2_with fail
            try rw [Exit.noGoto_ret]
            go_ret
            exact ⟨by rw [HO2.out]; rfl, by rw [HO2.out]; exact HS9.out, HB9.out⟩
          obtain ⟨g1, hg1, hBg1, hg1l⟩ := To.addr HS.out.2.1 hm0
          subst hg1
          have hmm : m - 1 < s.toks.length := by omega
          have ck := To.cell HS.out.2.1 hmm 0 (by omega)
          have ct := To.cell HS.out.2.1 hmm 1 (by omega)
          have hlast := last_tok s.toks (by omega)
          have hme : s.toks.length - 1 = m - 1 := by omega
          have hk5 : s.toks[m - 1].kind ≤ 9223372036854775807 ∨ True := .inr trivial
          simp only [hme] at hlast
          generalize htt : s.toks[m - 1] = tt at *
          obtain ⟨tk, tx, ta, td, tq⟩ := tt
          dsimp only [tokV, sv] at ck ct hlast
          simp only [List.getElem?_cons_zero, List.getElem?_cons_succ, Nat.add_zero] at ck ct
          have hmp : (0 : Int) < (m : Int) := by omega
          have hw7 : wrap64 ((m : Int) - 1) = (m : Int) - 1 := by rw [← Go.PlainAid.i64_is]; have := HOK.out.1; have := HOK.out.2.1; simp [IntKind.wrap, IntKind.bits, IntKind.signed]; omega
          have hn2 : (0 : Int) ≤ (m : Int) - 1 := by omega
          have hn3 : (m : Int) - 1 < (m : Int) := by omega
          have hia : ∀ W, (Instr.indexAt 23 (.slice (some ⟨g1, 0, none⟩) m k) (.int .i64 ((m : Int) - 1))).run Tryd.prog W = .ok (.pointer (some ⟨g1, (m - 1) * 5, none⟩)) W := fun W => tok_at g1 m k (m - 1) ((m : Int) - 1) (by omega) (by omega) W
          have HTL := hide hTl
          clear htt hme hTl hk5 hmm
          have tk2 : ((tk : Int) == 2) = (tk == 2) := by rw [Bool.eq_iff_iff, beq_iff_eq, beq_iff_eq]; omega
          by_cases hk2 : tk = 2
          · rw [beq_iff_eq.2 hk2] at tk2 hlast
            by_cases hx : tx = [60, 60]
            · have HO2 : Hid (OUT = (addS p { s with wait := s.wait ++ [m] } 1 (j - at0), true)) := hide (by rw [HW.out, hlast, beq_iff_eq.2 hx, HTL.out]; rfl)
              have hxb : (tx == [60, 60]) = true := beq_iff_eq.2 hx
              have hio := HS.out.2.2.1
              have hil := hio.len
              have hml : m' ≤ 100000 := by have := HOK.out.1; have := HOK.out.2.1; have := HOK.out.2.2.2.1; omega
              obtain ⟨wz, hwz⟩ : ∃ W, wr = W := ⟨_, rfl⟩
              have hbz := HB.out.size
              have hoa := World.ownsRow.alloc hio (.cells #[.int .i64 (m : Int)] 3)
              have hri := one_int wr m
              have HOA := hide hoa
              have HRI := hide hri
              clear HW hlast hx hoa hri hio hil hwz
              go_wp2_with (at_builtin; (refine wpList_append_any _ rfl (.tmp 104) (.tmp 106) 38 rfl B 3 iI _ 1 8 Tryd.underlying38 HII.out hz0 hz1 hz2 rfl (by omega) (.slice A' m' k') m' (ivs s.wait) rfl (by exact HOA.out) (wr.heap.size + 1) (some ⟨wr.heap.size, 0, none⟩) 1 1 (ivs [m]) rfl (by exact HRI.out) (ivs_one _) ?c1 ?c2 ?c3 ?_))
              case c1 => unfold maxLen; omega
              case c2 => omega
              case c3 => first | omega | (simp; omega)
              intro v1 W2 hown2 hg2 hat2
              obtain ⟨A2, x2, rfl⟩ := own_slice hown2
              have hs3 := Sc.waits HS.out hown2 hg2
              have hb3 := waits_below HS.out hg2 HB.out (by omega) (.slice A2 (m' + 1) x2)
              have hP2 := Blk.grown (h := HS.out.1.alloc _) (hb := hg2) (Ne.symm (own_blk_ne HS.out.2.2.1 HS.out.1 (by decide)))
              obtain ⟨⟨d0, d1, d2, d3, d4⟩, e0, e1, e2, e3, e4⟩ := hP2.five
              rw [HAT.out] at d1
              have hgl2 := hP2.lt
              have HS3 := hide hs3
              have HB3 := hide hb3
              clear hown2 hg2 hat2 hs3 hb3 hP2 c0 c1 c2 c3 c4 f0 f1 f2 f3 f4
              go_wp2_with fail
              have HZ := hide (HB3.out.size)
              have HSS := hide (show ScAt B _ g p { s with wait := s.wait ++ [m] } from ⟨_, _, _, _, _, _, HS3.out⟩)
              refine (XA.out _ { s with wait := s.wait ++ [m] } (by first | exact HAT.out | rfl) rfl (by have := HZ.out; omega) (by exact HSS.out)).mono ?_
              rintro e w9 ⟨rfl, hs9, hb9⟩
              have HS9 := hide hs9
              have HB9 : Hid (Below B w w9) := hide (HB3.out.trans hb9)
              clear hs9 hb9
              go_wp2_with fail
              try rw [Exit.noGoto_ret]
              go_ret
              exact ⟨by rw [HO2.out]; rfl, by rw [HO2.out]; exact HS9.out, HB9.out⟩
            · have HO2 : Hid (OUT = (addS p s 1 (j - at0), true)) := hide (by rw [HW.out, hlast, beq_eq_false_iff_ne.2 hx]; rfl)
              have hxb : (tx == [60, 60]) = false := beq_eq_false_iff_ne.2 hx
              clear HW hlast hx
              go_wp2_with fail
              have HZ := hide (HB.out.size)
              have HSS := hide (show ScAt B _ g p s from ⟨_, _, _, _, _, _, HS.out⟩)
              refine (XA.out _ s (by first | exact HAT.out | rfl) rfl (by have := HZ.out; omega) (by exact HSS.out)).mono ?_
              rintro e w9 ⟨rfl, hs9, hb9⟩
              have HS9 := hide hs9
              have HB9 : Hid (Below B w w9) := hide (HB.out.trans hb9)
              clear hs9 hb9
              go_wp2_with fail
              try rw [Exit.noGoto_ret]
              go_ret
              exact ⟨by rw [HO2.out]; rfl, by rw [HO2.out]; exact HS9.out, HB9.out⟩
          · rw [beq_eq_false_iff_ne.2 hk2] at tk2 hlast
            have HO2 : Hid (OUT = (addS p s 1 (j - at0), true)) := hide (by rw [HW.out, hlast]; rfl)
            clear HW hlast
            go_wp2_with fail
            have HZ := hide (HB.out.size)
            have HSS := hide (show ScAt B _ g p s from ⟨_, _, _, _, _, _, HS.out⟩)
            refine (XA.out _ s (by first | exact HAT.out | rfl) rfl (by have := HZ.out; omega) (by exact HSS.out)).mono ?_
            rintro e w9 ⟨rfl, hs9, hb9⟩
            have HS9 := hide hs9
            have HB9 : Hid (Below B w w9) := hide (HB.out.trans hb9)
            clear hs9 hb9
            go_wp2_with fail
            try rw [Exit.noGoto_ret]
            go_ret
            exact ⟨by rw [HO2.out]; rfl, by rw [HO2.out]; exact HS9.out, HB9.out⟩

      · have hne : isEnd c = false := by simpa using hend
        have hz0 : ¬ (0 : Int) ≤ z := fun h => hend (HEM.out.2 (.inr (.inr (.inr (HM.out.1 h)))))
        have tc1 : ((c.toNat : Int) == 32) = false := by rw [t32, beq_eq_false_iff_ne]; exact fun h => hend (HEM.out.2 (.inl h))
        have tc2 : ((c.toNat : Int) == 9) = false := by rw [t9, beq_eq_false_iff_ne]; exact fun h => hend (HEM.out.2 (.inr (.inl h)))
        have tc3 : ((c.toNat : Int) == 10) = false := by rw [t10, beq_eq_false_iff_ne]; exact fun h => hend (HEM.out.2 (.inr (.inr (.inl h))))
        replace HR2 := hide (HR2.out.trans (if_neg hend))
        clear HM HEM hend hne t32 t9 t10
        cases r2 with
        | false =>
          have HE : Hid (R = (r1, false)) := hide (by rw [HR2.out, if_pos rfl])
          have HO2 : Hid (OUT = ({ s with fault := r1 }, false)) := hide (by rw [HW.out, HE.out, if_pos rfl])
          clear HR2 HW HE
          go_wp2_with fail
          refine (P1.out _).mono ?_
          rintro e w1 ⟨rfl, rfl⟩
          go_wp2_with fail
          refine (P2.out _).mono ?_
          rintro e w2 ⟨rfl, hb2⟩
          have hS2 := HS.out.below (w' := w2) hb2
          have HB2 : Hid (Below B w w2) := hide (below_more HB.out (by have := HB.out.size; omega) hb2)
          obtain ⟨_, _, _, _, _, b4⟩ := hS2.cells
          obtain ⟨⟨_, _, _, _, a4⟩, _⟩ := hS2.cells
          have hgl2 := hS2.lt
          have HS2 := hide hS2
          clear hb2 hS2 P1 P2
          go_wp2_with fail
          rw [Exit.noGoto_ret]
          go_ret
          exact ⟨by rw [HO2.out]; rfl, ⟨A, m, k, A', m', k', by rw [HO2.out]; exact HS2.out.fault_ r1⟩, HB2.out.setCell (p := ⟨g, 4, none⟩) hBg _⟩
        | true =>
          have HE : Hid (R = wordL p f r1) := hide (by rw [HR2.out, if_neg (by decide)])
          have hr1 := hsf.2 rfl
          clear HR2 HW
          go_wp2_with fail
          refine (P1.out _).mono ?_
          rintro e w1 ⟨rfl, rfl⟩
          go_wp2_with fail
          refine (P2.out _).mono ?_
          rintro e w2 ⟨rfl, hb2⟩
          have HS2 := hide (HS.out.below (w' := w2) hb2)
          have HB2 : Hid (Below B w w2) := hide (below_more HB.out (by have := HB.out.size; omega) hb2)
          clear hb2 P1 P2
          go_wp2_with fail
          go_roundw
          case rel => exact ⟨r1, f, rfl, by omega, hsf.1, by omega, HS2, HB2, HE⟩
          case measure => simp [intOf]; omega
    · have hk1 : ¬ (j : Int) < (p.length : Int) := by omega
      have HE : Hid (R = (j, true)) := hide (by
        rw [HR.out]
        cases f with
        | zero => rfl
        | succ f => rw [wordL, if_pos (by omega)])
      clear HR
      by_cases hj0 : j = at0
      · have tj : ((j : Int) == (at0 : Int)) = true := beq_iff_eq.2 (by omega)
        have HO2 : Hid (OUT = ({ s with fault := at0 }, false)) := hide (by rw [HW.out, HE.out]; simp only [Bool.true_eq_false, if_false]; rw [if_pos (by rw [HAT.out]; exact hj0), HAT.out])
        clear HW HE hj0
        go_wp2_with fail
        try rw [Exit.noGoto_ret]
        go_ret
        exact ⟨by rw [HO2.out]; rfl, ⟨A, m, k, A', m', k', by rw [HO2.out]; exact HS.out.fault_ at0⟩, HB.out.setCell (p := ⟨g, 4, none⟩) hBg _⟩
      have tj : ((j : Int) == (at0 : Int)) = false := beq_eq_false_iff_ne.2 (by omega)
      replace HW : Hid (OUT = (addS p { s with wait := if hereT s.toks = true then s.wait ++ [s.toks.length] else s.wait } 1 (j - at0), true)) := hide (by rw [HW.out, HE.out]; simp only [Bool.true_eq_false, if_false]; rw [if_neg (by rw [HAT.out]; exact hj0), HAT.out])
      have XA := hide (fun W (q : S) (hq1 : q.at_ = at0) (hq2 : q.toks = s.toks) (hz : B ≤ W.heap.size) (hs : ScAt B W g p q) => add_any B g p q 1 (j - at0) W hl (by omega) (by rw [hq1]; omega) (by rw [hq2]; have := HOK.out.2.1; have := HOK.out.1; omega) hz hs)
      have hjc : ((j - at0 : Nat) : Int) = (j : Int) - (at0 : Int) := by omega
      rw [hjc] at XA
      clear HE hjc
      have hw6 : wrap64 ((j : Int) - (at0 : Int)) = (j : Int) - (at0 : Int) := by rw [← Go.PlainAid.i64_is]; simp [IntKind.wrap, IntKind.bits, IntKind.signed]; omega
      have hTl := HS.out.2.1.len
      rcases Nat.eq_zero_or_pos m with hm0 | hm0
      · have htk : s.toks = [] := List.eq_nil_of_length_eq_zero (by omega)
        have HO2 : Hid (OUT = (addS p s 1 (j - at0), true)) := hide (by rw [HW.out, htk]; simp only [last_nil, Bool.false_eq_true, if_false]; rw [← htk])
        have hmn : ¬ (0 : Int) < (m : Int) := by omega
        clear HW htk hTl hm0
        go_wp2_with fail
        have HZ := hide (HB.out.size)
        have HSS := hide (show ScAt B _ g p s from ⟨_, _, _, _, _, _, HS.out⟩)
        refine (XA.out _ s (by first | exact HAT.out | rfl) rfl (by have := HZ.out; omega) (by exact HSS.out)).mono ?_
        rintro e w9 ⟨rfl, hs9, hb9⟩
        have HS9 := hide hs9
        have HB9 : Hid (Below B w w9) := hide (HB.out.trans hb9)
        clear hs9 hb9
        go_wp2_with fail
        try rw [Exit.noGoto_ret]
        go_ret
        exact ⟨by rw [HO2.out]; rfl, by rw [HO2.out]; exact HS9.out, HB9.out⟩
      obtain ⟨g1, hg1, hBg1, hg1l⟩ := To.addr HS.out.2.1 hm0
      subst hg1
      have hmm : m - 1 < s.toks.length := by omega
      have ck := To.cell HS.out.2.1 hmm 0 (by omega)
      have ct := To.cell HS.out.2.1 hmm 1 (by omega)
      have hlast := last_tok s.toks (by omega)
      have hme : s.toks.length - 1 = m - 1 := by omega
      have hk5 : s.toks[m - 1].kind ≤ 9223372036854775807 ∨ True := .inr trivial
      simp only [hme] at hlast
      generalize htt : s.toks[m - 1] = tt at *
      obtain ⟨tk, tx, ta, td, tq⟩ := tt
      dsimp only [tokV, sv] at ck ct hlast
      simp only [List.getElem?_cons_zero, List.getElem?_cons_succ, Nat.add_zero] at ck ct
      have hmp : (0 : Int) < (m : Int) := by omega
      have hw7 : wrap64 ((m : Int) - 1) = (m : Int) - 1 := by rw [← Go.PlainAid.i64_is]; have := HOK.out.1; have := HOK.out.2.1; simp [IntKind.wrap, IntKind.bits, IntKind.signed]; omega
      have hn2 : (0 : Int) ≤ (m : Int) - 1 := by omega
      have hn3 : (m : Int) - 1 < (m : Int) := by omega
      have hia : ∀ W, (Instr.indexAt 23 (.slice (some ⟨g1, 0, none⟩) m k) (.int .i64 ((m : Int) - 1))).run Tryd.prog W = .ok (.pointer (some ⟨g1, (m - 1) * 5, none⟩)) W := fun W => tok_at g1 m k (m - 1) ((m : Int) - 1) (by omega) (by omega) W
      have HTL := hide hTl
      clear htt hme hTl hk5 hmm
      have tk2 : ((tk : Int) == 2) = (tk == 2) := by rw [Bool.eq_iff_iff, beq_iff_eq, beq_iff_eq]; omega
      by_cases hk2 : tk = 2
      · rw [beq_iff_eq.2 hk2] at tk2 hlast
        by_cases hx : tx = [60, 60]
        · have HO2 : Hid (OUT = (addS p { s with wait := s.wait ++ [m] } 1 (j - at0), true)) := hide (by rw [HW.out, hlast, beq_iff_eq.2 hx, HTL.out]; rfl)
          have hxb : (tx == [60, 60]) = true := beq_iff_eq.2 hx
          have hio := HS.out.2.2.1
          have hil := hio.len
          have hml : m' ≤ 100000 := by have := HOK.out.1; have := HOK.out.2.1; have := HOK.out.2.2.2.1; omega
          obtain ⟨wz, hwz⟩ : ∃ W, wr = W := ⟨_, rfl⟩
          have hbz := HB.out.size
          have hoa := World.ownsRow.alloc hio (.cells #[.int .i64 (m : Int)] 3)
          have hri := one_int wr m
          have HOA := hide hoa
          have HRI := hide hri
          clear HW hlast hx hoa hri hio hil hwz
          go_wp2_with (at_builtin; (refine wpList_append_any _ rfl (.tmp 104) (.tmp 106) 38 rfl B 3 iI _ 1 8 Tryd.underlying38 HII.out hz0 hz1 hz2 rfl (by omega) (.slice A' m' k') m' (ivs s.wait) rfl (by exact HOA.out) (wr.heap.size + 1) (some ⟨wr.heap.size, 0, none⟩) 1 1 (ivs [m]) rfl (by exact HRI.out) (ivs_one _) ?c1 ?c2 ?c3 ?_))
          case c1 => unfold maxLen; omega
          case c2 => omega
          case c3 => first | omega | (simp; omega)
          intro v1 W2 hown2 hg2 hat2
          obtain ⟨A2, x2, rfl⟩ := own_slice hown2
          have hs3 := Sc.waits HS.out hown2 hg2
          have hb3 := waits_below HS.out hg2 HB.out (by omega) (.slice A2 (m' + 1) x2)
          have hP2 := Blk.grown (h := HS.out.1.alloc _) (hb := hg2) (Ne.symm (own_blk_ne HS.out.2.2.1 HS.out.1 (by decide)))
          obtain ⟨⟨d0, d1, d2, d3, d4⟩, e0, e1, e2, e3, e4⟩ := hP2.five
          rw [HAT.out] at d1
          have hgl2 := hP2.lt
          have HS3 := hide hs3
          have HB3 := hide hb3
          clear hown2 hg2 hat2 hs3 hb3 hP2 c0 c1 c2 c3 c4 f0 f1 f2 f3 f4
          go_wp2_with fail
          have HZ := hide (HB3.out.size)
          have HSS := hide (show ScAt B _ g p { s with wait := s.wait ++ [m] } from ⟨_, _, _, _, _, _, HS3.out⟩)
          refine (XA.out _ { s with wait := s.wait ++ [m] } (by first | exact HAT.out | rfl) rfl (by have := HZ.out; omega) (by exact HSS.out)).mono ?_
          rintro e w9 ⟨rfl, hs9, hb9⟩
          have HS9 := hide hs9
          have HB9 : Hid (Below B w w9) := hide (HB3.out.trans hb9)
          clear hs9 hb9
          go_wp2_with fail
          try rw [Exit.noGoto_ret]
          go_ret
          exact ⟨by rw [HO2.out]; rfl, by rw [HO2.out]; exact HS9.out, HB9.out⟩
        · have HO2 : Hid (OUT = (addS p s 1 (j - at0), true)) := hide (by rw [HW.out, hlast, beq_eq_false_iff_ne.2 hx]; rfl)
          have hxb : (tx == [60, 60]) = false := beq_eq_false_iff_ne.2 hx
          clear HW hlast hx
          go_wp2_with fail
          have HZ := hide (HB.out.size)
          have HSS := hide (show ScAt B _ g p s from ⟨_, _, _, _, _, _, HS.out⟩)
          refine (XA.out _ s (by first | exact HAT.out | rfl) rfl (by have := HZ.out; omega) (by exact HSS.out)).mono ?_
          rintro e w9 ⟨rfl, hs9, hb9⟩
          have HS9 := hide hs9
          have HB9 : Hid (Below B w w9) := hide (HB.out.trans hb9)
          clear hs9 hb9
          go_wp2_with fail
          try rw [Exit.noGoto_ret]
          go_ret
          exact ⟨by rw [HO2.out]; rfl, by rw [HO2.out]; exact HS9.out, HB9.out⟩
      · rw [beq_eq_false_iff_ne.2 hk2] at tk2 hlast
        have HO2 : Hid (OUT = (addS p s 1 (j - at0), true)) := hide (by rw [HW.out, hlast]; rfl)
        clear HW hlast
        go_wp2_with fail
        have HZ := hide (HB.out.size)
        have HSS := hide (show ScAt B _ g p s from ⟨_, _, _, _, _, _, HS.out⟩)
        refine (XA.out _ s (by first | exact HAT.out | rfl) rfl (by have := HZ.out; omega) (by exact HSS.out)).mono ?_
        rintro e w9 ⟨rfl, hs9, hb9⟩
        have HS9 := hide hs9
        have HB9 : Hid (Below B w w9) := hide (HB.out.trans hb9)
        clear hs9 hb9
        go_wp2_with fail
        try rw [Exit.noGoto_ret]
        go_ret
        exact ⟨by rw [HO2.out]; rfl, by rw [HO2.out]; exact HS9.out, HB9.out⟩

end Go.Proofs.YtpfcfcbljkdkhaaDoor
