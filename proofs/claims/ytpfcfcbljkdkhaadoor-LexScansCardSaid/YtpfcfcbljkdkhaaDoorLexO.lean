/- The contract of lex.Scan. -/
import Derived.Test.YtpfcfcbljkdkhaaDoorLexN
namespace Go.Proofs.YtpfcfcbljkdkhaaDoor
open Go.RowKit
set_option linter.unusedVariables false
/-- What Scan hands back. -/
def ScanRet (w : World) (r : List T × Nat × Nat) (e : Ending) (w' : World) : Prop := ∃ A n c, e = .returned (.tuple #[.slice A n c, .agg #[.int .i64 (r.2.1 : Int), .int .i64 (r.2.2 : Int)]]) ∧ To w.heap.size w' A n c r.1 ∧ Below w.heap.size w w'
theorem wait_nil {l : List Nat} {n : Nat} (h : l.length = n) : (l = [] ↔ n = 0) := by
  subst h; exact List.eq_nil_iff_length_eq_zero
set_option maxRecDepth 100000 in
set_option maxHeartbeats 16000000 in
theorem scan_any (p : LB) (w : World) (hstd : Std w) (h0 : 0 < w.heap.size) (hp5 : p.length ≤ 100000) : Calls Tryd.prog 7 #[.string ⟨p.toArray⟩] w (ScanRet w (scanP p)) := by
  by_cases hbig : 4096 < p.length
  · have hk : (4096 : Int) < (p.length : Int) := by omega
    have hE : scanP p = ([], 4, 4096) := by unfold scanP; rw [if_pos hbig]
    rw [hE]
    go_enter Tryd.func7, Tryd.ntmps7
    go_wp2_with fail
    refine bodyPost_ret (v := .tuple #[.slice none 0 0, .agg #[.int .i64 4, .int .i64 4096]]) (by simp only [results, Tryd.results7]; go_simp) rfl ?_
    exact ⟨none, 0, 0, rfl, World.ownsRow_nil _ _ _ _, (Below.refl _ _).alloc (Nat.le_refl _) _⟩
  · have hk : ¬ (4096 : Int) < (p.length : Int) := by omega
    have hE : scanP p = scanL p (p.length + 1) ⟨blankP p 0, [], [], 0⟩ := by unfold scanP; rw [if_neg hbig]
    obtain ⟨R, hR⟩ : ∃ R, scanP p = R := ⟨_, rfl⟩
    rw [hR] at hE ⊢
    have HE := hide hE
    have HSTD := hide hstd
    clear hR hE hstd
    go_enter Tryd.func7, Tryd.ntmps7
    go_wp2_with fail
    obtain ⟨b, hb⟩ : ∃ b, w.heap.size = b := ⟨_, rfl⟩
    obtain ⟨W0, hW0⟩ : ∃ W, (w.alloc (.cells #[.int .i64 0, .int .i64 0] 26)).alloc (.cells #[.string ⟨p.toArray⟩, .int .i64 0, .slice none 0 0, .slice none 0 0, .int .i64 0] 40) = W := ⟨_, rfl⟩
    have hP0 : Blk W0 b 26 #[.int .i64 0, .int .i64 0] := by rw [← hW0, ← hb]; exact (Blk.new w 26 _).alloc _
    have hS0 : ScAt (b + 1) W0 (b + 1) p ⟨0, [], [], 0⟩ := by
      refine ⟨none, 0, 0, none, 0, 0, ?_, World.ownsRow_nil _ _ _ _, World.ownsRow_nil _ _ _ _, Nat.le_refl _⟩
      rw [← hW0, ← hb]
      have := Blk.new (w.alloc (.cells #[.int .i64 0, .int .i64 0] 26)) 40 #[.string ⟨p.toArray⟩, .int .i64 0, .slice none 0 0, .slice none 0 0, .int .i64 0]
      rw [World.size_alloc] at this
      exact this
    have hB0 : Below b w W0 := by rw [← hW0, ← hb]; exact ((Below.refl _ _).alloc (Nat.le_refl _) _).alloc (by simp) _
    have hz0 : b + 1 < W0.heap.size := by rw [← hW0, ← hb]; simp
    have HBE := hide hb
    have HP0 := hide hP0
    have HS0 := hide hS0
    have HB0 := hide hB0
    rw [hb]
    rw [hb] at h0
    rw [hW0]
    clear hW0 hb hP0 hS0 hB0
    refine (blank_any (b + 1) (b + 1) p ⟨0, [], [], 0⟩ W0 hp5 (Nat.zero_le _) HS0.out (by omega)).mono ?_
    rintro e w1 ⟨rfl, hs1, hb1⟩
    have hbk := blankP_facts p 0 (Nat.zero_le _)
    have HS1 : Hid (ScAt (b + 1) w1 (b + 1) p ⟨blankP p 0, [], [], 0⟩) := hide hs1
    have HP1 : Hid (Blk w1 b 26 #[.int .i64 0, .int .i64 0]) := hide (HP0.out.below hb1 (Nat.lt_succ_self b))
    have HB1 : Hid (Below b w w1) := hide (HB0.out.trans (hb1.mono (Nat.le_succ b)))
    have hz1 : b + 1 < w1.heap.size := by have := hb1.size; omega
    have HOK1 : Hid (SOk p ⟨blankP p 0, [], [], 0⟩) := hide ⟨hbk.2, Nat.zero_le _, Nat.zero_le _, Nat.le_refl _, by simp⟩
    have HSR1 : Hid (SR p ⟨blankP p 0, [], [], 0⟩) := hide ⟨by simp [Rise], by simp⟩
    clear hs1 hb1 HS0 HP0 HB0 hz0 hbk
    go_wp2_with fail
    go_loopw [] (fun wx => ∃ (s : S) (f : Nat), Hid (SOk p s) ∧ Hid (SR p s) ∧ p.length + 1 ≤ f + s.at_ ∧ b + 1 < wx.heap.size ∧ Hid (ScAt (b + 1) wx (b + 1) p s) ∧ Hid (Blk wx b 26 #[.int .i64 0, .int .i64 0]) ∧ Hid (Below b w wx) ∧ Hid (R = scanL p f s)) (fun wx => p.length - (intOf ((wx.cell? ⟨b + 1, 1, none⟩).getD undef)).toNat)
    case atStart => exact ⟨⟨blankP p 0, [], [], 0⟩, p.length + 1, HOK1, HSR1, by dsimp only; omega, hz1, HS1, HP1, HB1, HE⟩
    case round =>
      clear HE HOK1 HSR1 HS1 HP1 HB1 hz1
      obtain ⟨s, f, HOK, HSR, hf, hz, HS, HP, HB, HR⟩ := hrel
      obtain ⟨A, m, k, A', m', k', hS⟩ := HS.out
      obtain ⟨⟨c0, c1, c2, c3, c4⟩, f0, f1, f2, f3, f4⟩ := hS.cells
      have hat := HOK.out.1
      have hwl := hS.2.2.1.len
      have HWL := hide hwl
      have HSX := hide hS
      obtain ⟨x0, x1, y0, y1⟩ := HP.out.two
      have hbz : b < wr.heap.size := by omega
      have HC1 := hide c1
      obtain ⟨a, ha⟩ : ∃ a, s.at_ = a := ⟨_, rfl⟩
      have HAT := hide ha
      rw [ha] at c1 hf hat HC1
      clear ha hwl hS
      by_cases hlt : a < p.length
      · have hk1 : (a : Int) < (p.length : Int) := by omega
        obtain ⟨f, rfl⟩ : ∃ f', f = f' + 1 := ⟨f - 1, by omega⟩
        have hR2 := HR.out
        unfold scanL at hR2
        rw [if_neg (by rw [HAT.out]; omega)] at hR2
        have XT := hide (fun W (h1 : Std W) (h2 : ScAt (b + 1) W (b + 1) p s) (h3 : b + 1 ≤ W.heap.size) => token_any (b + 1) (b + 1) p s W hp5 HOK.out HSR.out (by rw [HAT.out]; exact hlt) h1 h2 h3 (Nat.succ_pos b))
        have HTO := hide (tokenS_ok HOK.out (by rw [HAT.out]; exact hlt))
        have HTR := hide (tokenS_rise HOK.out HSR.out (by rw [HAT.out]; exact hlt))
        obtain ⟨t, ht⟩ : ∃ t, tokenS p s = t := ⟨_, rfl⟩
        rw [ht] at hR2 XT HTO HTR
        obtain ⟨s1, b1⟩ := t
        dsimp only at hR2 XT HTO HTR
        have HR2 := hide hR2
        have hstd : Std wr := HSTD.out.below (by rw [HBE.out]; exact HB.out)
        have HST := hide hstd
        clear hR2 ht HR hstd
        cases b1 with
        | false =>
          have HE : Hid (R = ([], 50, s1.fault)) := hide (by rw [HR2.out, if_pos rfl])
          clear HR2 HTR
          go_wp2_with fail
          refine (XT.out _ HST.out HS.out (by omega)).mono ?_
          rintro e w2 ⟨rfl, _, ⟨s2, hs2f, A2, m2, k2, A2', m2', k2', hs2⟩, hb2⟩
          obtain ⟨_, _, _, _, _, g4⟩ := hs2.cells
          obtain ⟨⟨_, _, _, _, d4⟩, _⟩ := hs2.cells
          rw [hs2f] at d4
          have hgl2 := hs2.lt
          have hp2 := HP.out.below hb2 (Nat.lt_succ_self b)
          obtain ⟨x0', x1', y0', y1'⟩ := hp2.two
          have HB2 : Hid (Below b w w2) := hide (HB.out.trans (hb2.mono (Nat.le_succ b)))
          have hbz2 : b < w2.heap.size := by omega
          have HF : Hid (s2.fault = s1.fault) := hide hs2f
          clear hs2 hs2f hb2 hp2 XT
          go_wp2_with fail
          go_region
          go_wp2_with fail
          refine bodyPost_ret (v := .tuple #[.slice none 0 0, .agg #[.int .i64 50, .int .i64 (s2.fault : Int)]]) (by simp only [results, Tryd.results7]; go_simp) rfl ?_
          rw [HE.out]
          exact ⟨none, 0, 0, by rw [HF.out]; rfl, World.ownsRow_nil _ _ _ _, by rw [HBE.out]; exact ((HB2.out.setCell (p := ⟨b, 0, none⟩) (Nat.le_refl _) _).setCell (p := ⟨b, 1, none⟩) (Nat.le_refl _) _).drew⟩
        | true =>
          have HE : Hid (R = scanL p f { s1 with at_ := blankP p s1.at_ }) := hide (by rw [HR2.out, if_neg (by decide)])
          have hs1k := (HTO.out.1 rfl).1
          have hs1a := (HTO.out.1 rfl).2
          have hs1r := HTR.out rfl
          have hbk := blankP_facts p s1.at_ hs1k.1
          have HK2 := hide (blank_ok hs1k)
          have HR3 : Hid (SR p { s1 with at_ := blankP p s1.at_ }) := hide ⟨Rise.up _ _ hs1r.1 hbk.1, hs1r.2⟩
          have hs1l := hs1k.1
          rw [HAT.out] at hs1a
          clear HR2 hs1k hs1r HTO HTR
          go_wp2_with fail
          refine (XT.out _ HST.out HS.out (by omega)).mono ?_
          rintro e w2 ⟨rfl, hs2, _, hb2⟩
          have HS2 := hide (hs2 trivial)
          have hz2 : b + 1 < w2.heap.size := by have := hb2.size; omega
          have HP2 := hide (HP.out.below hb2 (Nat.lt_succ_self b))
          have HB2 : Hid (Below b w w2) := hide (HB.out.trans (hb2.mono (Nat.le_succ b)))
          clear hs2 hb2 XT
          go_wp2_with fail
          refine (blank_any (b + 1) (b + 1) p s1 w2 hp5 hs1l HS2.out (by omega)).mono ?_
          rintro e w3 ⟨rfl, hs3, hb3⟩
          have HS3 := hide hs3
          have hz3 : b + 1 < w3.heap.size := by have := hb3.size; omega
          have HP3 := hide (HP2.out.below hb3 (Nat.lt_succ_self b))
          have HB3 : Hid (Below b w w3) := hide (HB2.out.trans (hb3.mono (Nat.le_succ b)))
          clear hs3 hb3
          go_wp2_with fail
          go_roundw
          case rel => exact ⟨{ s1 with at_ := blankP p s1.at_ }, f, HK2, HR3, by dsimp only; omega, hz3, HS3, HP3, HB3, HE⟩
          case measure =>
            obtain ⟨_, _, _, _, _, _, h3⟩ := HS3.out
            exact meas_lt (i := blankP p s1.at_) h3.cells.1.2.1 HC1.out (by omega) hlt
      · have hk1 : ¬ (a : Int) < (p.length : Int) := by omega
        obtain ⟨f, rfl⟩ | hf0 : (∃ f', f = f' + 1) ∨ f = 0 := by
          cases f with
          | zero => exact .inr rfl
          | succ f => exact .inl ⟨f, rfl⟩
        · have hR2 := HR.out
          unfold scanL at hR2
          rw [if_pos (by rw [HAT.out]; omega)] at hR2
          have HR2 := hide hR2
          clear hR2 HR
          by_cases hw : m' = 0
          · have HE : Hid (R = ((addS p s 5 0).toks, 0, 0)) := hide (by rw [HR2.out, if_pos ((wait_nil HWL.out).2 hw)])
            have hk2 : ¬ (0 : Int) < (m' : Int) := by omega
            have hsl : s.toks.length ≤ 100000 := by have := HOK.out.2.1; have := HOK.out.1; omega
            have XA : Hid (∀ W, b + 1 ≤ W.heap.size → ScAt (b + 1) W (b + 1) p s → Calls Tryd.prog 18 #[.pointer (some ⟨b + 1, 0, none⟩), .int .i64 5, .int .i64 0] W fun e w' => e = .returned (.tuple #[]) ∧ ScAt (b + 1) w' (b + 1) p (addS p s 5 0) ∧ Below (b + 1) W w') := hide fun W hz hs => add_any (b + 1) (b + 1) p s 5 0 W hp5 (by omega) (by have := HOK.out.1; omega) hsl hz hs
            clear HR2 hw
            go_wp2_with fail
            refine (XA.out _ (by omega) HS.out).mono ?_
            rintro e w2 ⟨rfl, ⟨A2, m2, k2, A2', m2', k2', hs2⟩, hb2⟩
            obtain ⟨⟨_, _, d2, _, _⟩, _, _, g2, _, _⟩ := hs2.cells
            have hgl2 := hs2.lt
            have HT2 := hide hs2.2.1
            have hp2 := HP.out.below hb2 (Nat.lt_succ_self b)
            obtain ⟨x0', x1', y0', y1'⟩ := hp2.two
            have HP2 := hide hp2
            have HB2 : Hid (Below b w w2) := hide (HB.out.trans (hb2.mono (Nat.le_succ b)))
            have hbz2 : b < w2.heap.size := by omega
            clear hs2 hb2 hp2 XA c0 c1 c2 c3 c4 f0 f1 f2 f3 f4
            go_wp2_with fail
            refine bodyPost_ret (v := .tuple #[.slice A2 m2 k2, .agg #[.int .i64 0, .int .i64 0]]) (by simp only [results, Tryd.results7]; go_simp) rfl ?_
            rw [HE.out]
            refine ⟨A2, m2, k2, rfl, ?_, by rw [HBE.out]; exact (HB2.out.setCell (p := ⟨b, 0, none⟩) (Nat.le_refl _) _).setCell (p := ⟨b, 1, none⟩) (Nat.le_refl _) _⟩
            rw [HBE.out]
            exact own_more (own_set_blk (own_set_blk HT2.out (p := ⟨b, 0, none⟩) HP2.out (by decide) _) (p := ⟨b, 1, none⟩) (HP2.out.set_ 0 _) (by decide) _) (Nat.le_succ b)
          · have HE : Hid (R = ([], 50, p.length)) := hide (by rw [HR2.out, if_neg (fun h => hw ((wait_nil HWL.out).1 h))])
            have hk2 : (0 : Int) < (m' : Int) := by omega
            clear HR2 hw
            go_wp2_with fail
            refine bodyPost_ret (v := .tuple #[.slice none 0 0, .agg #[.int .i64 50, .int .i64 (p.length : Int)]]) (by simp only [results, Tryd.results7]; go_simp) rfl ?_
            rw [HE.out]
            exact ⟨none, 0, 0, rfl, World.ownsRow_nil _ _ _ _, by rw [HBE.out]; exact (HB.out.setCell (p := ⟨b, 0, none⟩) (Nat.le_refl _) _).setCell (p := ⟨b, 1, none⟩) (Nat.le_refl _) _⟩
        · exfalso; omega
end Go.Proofs.YtpfcfcbljkdkhaaDoor
