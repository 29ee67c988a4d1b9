/- The contract of the reference's Scan. -/
import Derived.Test.YtpfcfcbljkdkhaaDoorRefE
namespace Go.Proofs.YtpfcfcbljkdkhaaDoor
open Go.RowKit
set_option linter.unusedVariables false
set_option maxRecDepth 1000000 in
set_option maxHeartbeats 32000000 in
theorem refscan_any (p : LB) (w : World) (hl : p.length ≤ 100000) : Calls Tryd.prog 8 #[.string ⟨p.toArray⟩] w (ScanRet w (scanP p)) := by
  by_cases hbig : 4096 < p.length
  · have hk : (4096 : Int) < (p.length : Int) := by omega
    obtain ⟨R, hR⟩ : ∃ R, scanP p = R := ⟨_, rfl⟩
    have HX : Hid (R = ([], 4, 4096)) := hide (by rw [← hR]; unfold scanP; rw [if_pos hbig])
    rw [hR]
    clear hR
    have XB : Hid (∀ W, Calls Tryd.prog 19 #[.int .i64 4, .int .i64 4096] W fun en w' => en = .returned (.tuple #[.slice none 0 0, .agg #[.int .i64 4, .int .i64 4096]]) ∧ Below W.heap.size W w') := hide fun W => bad_any W 4 4096 (by omega) (by omega)
    obtain ⟨b, hb⟩ : ∃ b, w.heap.size = b := ⟨_, rfl⟩
    have HBE := hide hb
    have hP0 : Blk (w.alloc (.cells #[.int .i64 0, .int .i64 0] 26)) b 26 #[.int .i64 0, .int .i64 0] := by rw [← hb]; exact Blk.new w 26 _
    have hB0 : Below b w (w.alloc (.cells #[.int .i64 0, .int .i64 0] 26)) := by rw [← hb]; exact (Below.refl _ _).alloc (Nat.le_refl _) _
    have HP0 := hide hP0
    have HB0 := hide hB0
    clear hb hP0 hB0
    go_enter Tryd.func8, Tryd.ntmps8
    go_wp2_with fail
    rw [HBE.out]
    refine (XB.out _).mono ?_
    rintro e w9 ⟨rfl, hb9⟩
    have hp9 := HP0.out.below hb9 HP0.out.lt
    obtain ⟨x0, x1, y0, y1⟩ := hp9.two
    have hz9 := hp9.lt
    have HB9 : Hid (Below b w w9) := hide (HB0.out.trans (hb9.mono (Nat.le_of_lt HP0.out.lt)))
    clear hb9 hp9
    go_wp2_with fail
    refine bodyPost_ret (v := .tuple #[.slice none 0 0, .agg #[.int .i64 4, .int .i64 4096]]) (by simp only [results, Tryd.results8]; go_simp) rfl ?_
    rw [HX.out]
    exact ⟨none, 0, 0, rfl, World.ownsRow_nil _ _ _ _, by rw [HBE.out]; exact ((HB9.out.setCell (p := ⟨b, 0, none⟩) (Nat.le_refl _) _).setCell (p := ⟨b, 1, none⟩) (Nat.le_refl _) _)⟩
  · have hk : ¬ (4096 : Int) < (p.length : Int) := by omega
    have hE : scanP p = scanL p (p.length + 1) ⟨blankP p 0, [], [], 0⟩ := by unfold scanP; rw [if_neg hbig]
    obtain ⟨R, hR⟩ : ∃ R, scanP p = R := ⟨_, rfl⟩
    rw [hR] at hE ⊢
    have HE := hide hE
    clear hR hE
    obtain ⟨i5, hi5, hz0, hz1, hz2⟩ := info_parts infoTok
    have HI5 := hide hi5
    obtain ⟨iI, hiI, yz0, yz1, yz2⟩ := info_parts infoInt
    have HII := hide hiI
    clear hi5 hiI
    have XB50 : Hid (∀ W (x : Nat), x ≤ 1000000 → Calls Tryd.prog 19 #[.int .i64 50, .int .i64 (x : Int)] W fun en w' => en = .returned (.tuple #[.slice none 0 0, .agg #[.int .i64 50, .int .i64 (x : Int)]]) ∧ Below W.heap.size W w') := hide fun W x hx => bad_any W 50 x (by omega) hx
    have XG0 : Hid (∀ W, Calls Tryd.prog 20 #[.string ⟨p.toArray⟩, .int .i64 0] W fun e w' => e = .returned (.int .i64 ((blankP p 0 : Nat) : Int)) ∧ w' = W) := hide fun W => gap_any p hl 0 (Nat.zero_le _) W
    obtain ⟨b, hb⟩ : ∃ b, w.heap.size = b := ⟨_, rfl⟩
    have HBE := hide hb
    have hP0 : Blk (w.alloc (.cells #[.int .i64 0, .int .i64 0] 26)) b 26 #[.int .i64 0, .int .i64 0] := by rw [← hb]; exact Blk.new w 26 _
    have hB0 : Below b w (w.alloc (.cells #[.int .i64 0, .int .i64 0] 26)) := by rw [← hb]; exact (Below.refl _ _).alloc (Nat.le_refl _) _
    have HP0 := hide hP0
    have HB0 := hide hB0
    clear hb hP0 hB0
    go_enter Tryd.func8, Tryd.ntmps8
    go_wp2_with fail
    rw [HBE.out]
    obtain ⟨W0, hW0⟩ : ∃ W, w.alloc (.cells #[.int .i64 0, .int .i64 0] 26) = W := ⟨_, rfl⟩
    rw [hW0] at HP0 HB0 ⊢
    clear hW0
    refine (XG0.out _).mono ?_
    rintro e w1 ⟨rfl, rfl⟩
    have hbk := blankP_facts p 0 (Nat.zero_le _)
    have hbs := blank_stop p (p.length + 1) 0 (by omega)
    have HBS : Hid (p.length ≤ blankP p 0 ∨ NBl p (blankP p 0)) := hide hbs
    have hb0 := hbk.2
    have HOK0 : Hid (SOk p ⟨blankP p 0, [], [], 0⟩) := hide ⟨hbk.2, Nat.zero_le _, Nat.zero_le _, Nat.le_refl _, by simp⟩
    have HSR0 : Hid (SR p ⟨blankP p 0, [], [], 0⟩) := hide ⟨by simp [Rise], by simp⟩
    have HRS0 : Hid (RS b w w1 none 0 0 none 0 0 [] []) := hide ⟨World.ownsRow_nil _ _ _ _, World.ownsRow_nil _ _ _ _, HP0.out, HB0.out⟩
    clear hbk hbs HP0 HB0 XG0
    go_wp2_with fail
    go_loopw [4, 5, 6] (fun u4 u5 u6 wx => ∃ (s : S) (f : Nat) (A : Option Addr) (n c : Nat) (A' : Option Addr) (n' c' : Nat), u4 = .slice A n c ∧ u5 = .slice A' n' c' ∧ u6 = .int .i64 ((s.at_ : Nat) : Int) ∧ p.length + 1 ≤ f + s.at_ ∧ s.at_ ≤ p.length ∧ Hid (SOk p s) ∧ Hid (SR p s) ∧ Hid (p.length ≤ s.at_ ∨ NBl p s.at_) ∧ Hid (RS b w wx A n c A' n' c' s.toks s.wait) ∧ Hid (R = scanL p f s)) (fun _ _ u6 _ => p.length - (intOf u6).toNat)
    case atStart => exact ⟨⟨blankP p 0, [], [], 0⟩, p.length + 1, none, 0, 0, none, 0, 0, rfl, rfl, rfl, by dsimp only; omega, hb0, HOK0, HSR0, HBS, HRS0, HE⟩
    case round =>
      clear HE HOK0 HSR0 HBS HRS0 hb0
      obtain ⟨s, f, A, n, c, A', n', c', rfl, rfl, rfl, hf, hat, HOK, HSR, HNB, HS, HR⟩ := hrel
      obtain ⟨a, ts, wt, ft⟩ := s
      dsimp only at hf hat HS HNB ⊢
      have HN := hide HS.out.1.len
      have HN' := hide HS.out.2.1.len
      have hnb : n ≤ 5000 := by have := HN.out; have := HOK.out.2.1; dsimp only at this; omega
      have hnb' : n' ≤ 5000 := by have := HN'.out; have := HOK.out.2.1; have := HOK.out.2.2.2.1; dsimp only at *; omega
      have hbl := HS.out.lt
      by_cases hlt : a < p.length
      · have hk1 : (a : Int) < (p.length : Int) := by omega
        obtain ⟨f, rfl⟩ : ∃ g, f = g + 1 := ⟨f - 1, by omega⟩
        have hR2 := HR.out
        unfold scanL at hR2
        rw [if_neg (by dsimp only; omega)] at hR2
        have hT : tokenS p ⟨a, ts, wt, ft⟩ = (if p.getD a 0 = 10 then docsS p (addS p ⟨a, ts, wt, ft⟩ 4 1)
          else if 0 < operP (p.drop a) then (addS p ⟨a, ts, wt, ft⟩ 2 (operP (p.drop a)), true)
          else if 0 < numP (p.drop a) then (addS p ⟨a, ts, wt, ft⟩ 3 (numP (p.drop a)), true)
          else wordS p ⟨a, ts, wt, ft⟩) := rfl
        have hNK := fun s1 => next_ok (s1 := s1) HOK.out HSR.out hlt
        have HNB2 : Hid (NBl p a) := hide (HNB.out.resolve_left (by omega))
        have HLX : Hid (∀ t ∈ ts, t.text.length ≤ 100000) := hide fun t ht => by have := HSR.out.text t ht; omega
        have HWL : Hid (∀ q ∈ wt, q < ts.length) := hide HOK.out.2.2.2.2
        have ho := operP_le (p.drop a)
        have hnl := numP_le (p.drop a)
        rw [List.length_drop] at ho hnl
        have XN := hide (fun W => refnum_any p hl a (by omega) W)
        have XO := hide (fun W => refoper_any p hl a hlt W)
        have hix := ix_l p a (p.getD a 0) (getD_some hlt)
        have t10 := u8_beq (p.getD a 0) 10
        change (((p.getD a 0).toNat : Int) == 10) = _ at t10
        have t38 := u8_beq (p.getD a 0) 38
        change (((p.getD a 0).toNat : Int) == 38) = _ at t38
        have hc1 : p.getD a 0 = 10 → (p.drop a).take 1 = [10] := fun h => by
          have : p.getD a 0 = p[a] := by simp [List.getD_eq_getElem?_getD, hlt]
          rw [List.drop_eq_getElem_cons hlt, ← this, h]; rfl
        obtain ⟨cc, hcc⟩ : ∃ x, p.getD a 0 = x := ⟨_, rfl⟩
        have HCC := hide hcc
        rw [hcc] at hix t10 t38 hT hc1
        obtain ⟨nA, hnA⟩ : ∃ x, numAt p a = x := ⟨_, rfl⟩
        have HNA := hide hnA
        rw [hnA] at XN
        have HT := hide hT
        have HNK := hide hNK
        have HR2 := hide hR2
        have HC1 := hide hc1
        have HTW := hide HS.out.1
        have HIW := hide HS.out.2.1
        clear hT hNK hR2 hc1 hcc hnA HR HNB
        have hgt : Blk (wr.alloc (.cells #[.int .i64 0, .string ⟨#[]⟩, .int .i64 (a : Int), .string ⟨#[]⟩, .bool false] 37)) wr.heap.size 37 #[.int .i64 0, .string ⟨#[]⟩, .int .i64 (a : Int), .string ⟨#[]⟩, .bool false] := Blk.new wr 37 _
        have HGT := hide hgt
        have HWR : Hid (Below wr.heap.size wr (wr.alloc (.cells #[.int .i64 0, .string ⟨#[]⟩, .int .i64 (a : Int), .string ⟨#[]⟩, .bool false] 37))) := hide ((Below.refl _ _).alloc (Nat.le_refl _) _)
        clear hgt
        obtain ⟨X, hX⟩ : ∃ X, (p.drop a).take (operP (p.drop a)) = X := ⟨_, rfl⟩
        have HXE := hide hX
        rw [hX] at XO
        have hXl : X.length = operP (p.drop a) := by rw [← hX, List.length_take, List.length_drop]; omega
        have HXL := hide hXl
        clear hX hXl
        go_wp2_with fail
        refine (XN.out _).mono ?_
        rintro e w1 ⟨rfl, rfl⟩
        go_wp2_with fail
        refine (XO.out _).mono ?_
        rintro e w2 ⟨rfl, hb2⟩
        have HG2 := hide (HGT.out.below hb2 HGT.out.lt)
        have HWR2 : Hid (Below wr.heap.size wr w2) := hide (HWR.out.trans (hb2.mono (Nat.le_of_lt HGT.out.lt)))
        have HS2 : Hid (RS b w w2 A n c A' n' c' ts wt) := hide (HS.out.below HWR2.out)
        obtain ⟨⟨g0, g1, g2, g3, g4⟩, fz0, fz1, fz2, fz3, fz4⟩ := HG2.out.five
        have hgl2 := HG2.out.lt
        clear hb2 HGT HWR XN XO
        by_cases h10 : cc = 10
        · have ht10 : ((cc.toNat : Int) == 10) = true := by rw [t10, beq_iff_eq.2 h10]
          have hT1 : tokenS p ⟨a, ts, wt, ft⟩ = docsS p ⟨a + 1, ts ++ [⟨4, [10], a, [], false⟩], wt, ft⟩ := by
            rw [HT.out, if_pos h10]
            unfold addS
            dsimp only
            rw [HC1.out h10]
          obtain ⟨D, hD⟩ : ∃ D, docsL p wt (a + 1) (ts ++ [⟨4, [10], a, [], false⟩]) = D := ⟨_, rfl⟩
          have hT2 := docs_eq p ⟨a + 1, ts ++ [⟨4, [10], a, [], false⟩], wt, ft⟩ hD
          have HT1 := hide (hT1.trans hT2)
          have HD := hide hD
          clear hT1 hT2 hD t10 t38 h10 HT
          have hown1 := World.ownsRow.alloc HS2.out.1 (.cells #[.int .i64 (((⟨4, [10], a, [], false⟩ : T).kind : Nat) : Int), .string ⟨(⟨4, [10], a, [], false⟩ : T).text.toArray⟩, .int .i64 ((⟨4, [10], a, [], false⟩ : T).at_ : Int), .string ⟨(⟨4, [10], a, [], false⟩ : T).doc.toArray⟩, .bool (⟨4, [10], a, [], false⟩ : T).quoted] 37)
          have hr1 := one_tok (w2) (⟨4, [10], a, [], false⟩ : T)
          have hsz1 : (w2).heap.size = w2.heap.size := by first | rfl | simp
          rw [hsz1] at hr1
          have HOWN := hide hown1
          have HRR := hide hr1
          have hwz := HS2.out.lt
          rw [hsz1] at hwz
          clear hown1 hr1 hsz1
          go_wp2_with (at_builtin; (refine wpList_append_any _ rfl (.tmp 85) (.tmp 88) 23 rfl (b + 1) 37 i5 _ 5 56 Tryd.underlying23 HI5.out hz0 hz1 hz2 rfl (by omega) (.slice A n c) n (tvs ts) rfl (by exact HOWN.out) (w2.heap.size + 1) (some ⟨w2.heap.size, 0, none⟩) 1 1 (tvs [(⟨4, [10], a, [], false⟩ : T)]) rfl (by exact HRR.out) (tvs_one _) ?c1 ?c2 ?c3 ?_))
          case c1 => unfold maxLen; omega
          case c2 => omega
          case c3 => first | omega | (simp; omega)
          intro v1 W5 hown2 hg2 hat2
          obtain ⟨A2, c2, rfl, RS5⟩ := HS2.out.toks (t := ⟨4, [10], a, [], false⟩) hown2 hg2
          have HS5 := hide RS5
          have XDo : Hid (Calls Tryd.prog 23 #[.string ⟨p.toArray⟩, .int .i64 ((a : Int) + 1), .slice A2 (n + 1 : Nat) c2, .slice A' n' c'] W5 fun e w' => Below (b + 1) W5 w' ∧ DocsRet (b + 1) A2 (n + 1) c2 p D e w') := hide (by
            have := refdocs_any (b + 1) (b + 1) p hl (a + 1) (by omega) A2 A' (n + 1) c2 n' c' (ts ++ [⟨4, [10], a, [], false⟩]) wt W5 RS5.1 RS5.2.1 RS5.lt (fun q hq => by have := HWL.out q hq; simp; omega) (fun t ht => by
              rcases List.mem_append.1 ht with h | h
              · exact HLX.out t h
              · rw [List.mem_singleton.1 h]; simp) (by omega) (by omega)
            rw [HD.out, show ((a + 1 : Nat) : Int) = (a : Int) + 1 by omega] at this
            exact this)
          have kw1 : IntKind.i64.wrap ((a : Int) + 1) = (a : Int) + 1 := by simp [IntKind.wrap, IntKind.bits, IntKind.signed]; omega
          clear hown2 hg2 hat2 RS5 g0 g1 g2 g3 g4 fz0 fz1 fz2 fz3 fz4
          go_wp2_with fail
          refine XDo.out.mono ?_
          rintro e w3 ⟨hb3, hd⟩
          have HP3 := hide (HS5.out.2.2.1.below hb3 (Nat.lt_succ_self b))
          have HB3 : Hid (Below b w w3) := hide (HS5.out.2.2.2.trans (hb3.mono (Nat.le_succ b)))
          cases D with
          | none =>
            have he : e = .returned (.tuple #[.int .i64 0, .bool false]) := hd
            subst he
            have HX : Hid (R = ([], 50, p.length)) := hide (by rw [HR2.out, HT1.out]; rfl)
            clear hd hb3 XDo HR2 HT1 HNK
            go_wp2_with fail
            refine (XB50.out _ p.length (by omega)).mono ?_
            rintro e w9 ⟨rfl, hb9⟩
            have hp9 := HP3.out.below hb9 HP3.out.lt
            obtain ⟨x0, x1, y0, y1⟩ := hp9.two
            have hz9 := hp9.lt
            have HB9 : Hid (Below b w w9) := hide (HB3.out.trans (hb9.mono (Nat.le_of_lt HP3.out.lt)))
            clear hb9 hp9
            go_wp2_with fail
            refine bodyPost_ret (v := .tuple #[.slice none 0 0, .agg #[.int .i64 50, .int .i64 (p.length : Int)]]) (by simp only [results, Tryd.results8]; go_simp) rfl ?_
            rw [HX.out]
            exact ⟨none, 0, 0, rfl, World.ownsRow_nil _ _ _ _, by rw [HBE.out]; exact ((HB9.out.setCell (p := ⟨b, 0, none⟩) (Nat.le_refl _) _).setCell (p := ⟨b, 1, none⟩) (Nat.le_refl _) _)⟩
          | some D =>
            obtain ⟨j, us⟩ := D
            obtain ⟨he, hto, hj⟩ : e = .returned (.tuple #[.int .i64 (j : Int), .bool true]) ∧ To (b + 1) w3 A2 (n + 1) c2 us ∧ j ≤ p.length := hd
            subst he
            have hTk : tokenS p ⟨a, ts, wt, ft⟩ = (⟨j, us, [], ft⟩, true) := HT1.out
            have HNX := hide (HNK.out _ hTk)
            have HR3 : Hid (R = scanL p f ⟨blankP p j, us, [], ft⟩) := hide (by rw [HR2.out, hTk]; rfl)
            have HS6 : Hid (RS b w w3 A2 (n + 1) c2 none 0 0 us []) := hide ⟨hto, World.ownsRow_nil _ _ _ _, HP3.out, HB3.out⟩
            have XG := hide (fun W => gap_any p hl j hj W)
            clear hb3 XDo HR2 HT1 HNK hto hTk
            go_wp2_with fail
            refine (XG.out _).mono ?_
            rintro e w9 ⟨rfl, rfl⟩
            go_wp2_with fail
            go_roundw
            case rel => exact ⟨⟨blankP p j, us, [], ft⟩, f, A2, n + 1, c2, none, 0, 0, rfl, rfl, rfl, by have := HNX.out.2.2.2.1; (try dsimp only at this ⊢); omega, HNX.out.2.2.2.2.1, hide HNX.out.1, hide HNX.out.2.1, hide HNX.out.2.2.1, HS6, HR3⟩
            case measure => have := HNX.out.2.2.2.1; have := HNX.out.2.2.2.2.1; (try dsimp only at *); simp [intOf]; omega
        have ht10 : ((cc.toNat : Int) == 10) = false := by rw [t10, beq_eq_false_iff_ne.2 h10]
        replace HT := hide (HT.out.trans (if_neg h10))
        by_cases hop : 0 < operP (p.drop a)
        · have kx : (X != []) = true := by
            rw [bne_iff_ne]; intro h; have := HXL.out; rw [h] at this; simp at this; omega
          have kx2 : (X == []) = false := by
            rw [beq_eq_false_iff_ne]; intro h; have := HXL.out; rw [h] at this; simp at this; omega
          have hTk : tokenS p ⟨a, ts, wt, ft⟩ = (⟨a + X.length, ts ++ [⟨2, X, a, [], false⟩], wt, ft⟩, true) := by
            rw [HT.out, if_pos hop]
            unfold addS
            dsimp only
            rw [HXE.out, HXL.out]
          have HNX := hide (HNK.out _ hTk)
          have HR3 : Hid (R = scanL p f ⟨blankP p (a + X.length), ts ++ [⟨2, X, a, [], false⟩], wt, ft⟩) := hide (by rw [HR2.out, hTk]; rfl)
          have hxb : a + X.length ≤ p.length := by have := HXL.out; omega
          have kwx : IntKind.i64.wrap ((a : Int) + (X.length : Int)) = (a : Int) + (X.length : Int) := by simp [IntKind.wrap, IntKind.bits, IntKind.signed]; omega
          have XG : Hid (∀ W, Calls Tryd.prog 20 #[.string ⟨p.toArray⟩, .int .i64 ((a : Int) + (X.length : Int))] W fun e w' => e = .returned (.int .i64 ((blankP p (a + X.length) : Nat) : Int)) ∧ w' = W) := hide fun W => by
            have := gap_any p hl (a + X.length) hxb W
            rwa [show ((a + X.length : Nat) : Int) = (a : Int) + (X.length : Int) by omega] at this
          have HX4 : Hid (Blk ((w2.setCell ⟨wr.heap.size, 0, none⟩ (.int .i64 2)).setCell ⟨wr.heap.size, 1, none⟩ (.string ⟨X.toArray⟩)) wr.heap.size 37 #[.int .i64 2, .string ⟨X.toArray⟩, .int .i64 (a : Int), .string ⟨#[]⟩, .bool false]) := hide ((HG2.out.set_ 0 _).set_ 1 _)
          have HS4 : Hid (RS b w ((w2.setCell ⟨wr.heap.size, 0, none⟩ (.int .i64 2)).setCell ⟨wr.heap.size, 1, none⟩ (.string ⟨X.toArray⟩)) A n c A' n' c' ts wt) := hide (HS.out.below ((HWR2.out.setCell (p := ⟨wr.heap.size, 0, none⟩) (Nat.le_refl _) _).setCell (p := ⟨wr.heap.size, 1, none⟩) (Nat.le_refl _) _))
          clear HT HR2 HNK HC1 HNB2 HCC HXE HXL hTk t10 t38 h10 hop HWL HLX HNA
          have hown1 := World.ownsRow.alloc HS4.out.1 (.cells #[.int .i64 (((⟨2, X, a, [], false⟩ : T).kind : Nat) : Int), .string ⟨(⟨2, X, a, [], false⟩ : T).text.toArray⟩, .int .i64 ((⟨2, X, a, [], false⟩ : T).at_ : Int), .string ⟨(⟨2, X, a, [], false⟩ : T).doc.toArray⟩, .bool (⟨2, X, a, [], false⟩ : T).quoted] 37)
          have hr1 := one_tok (((w2.setCell ⟨wr.heap.size, 0, none⟩ (.int .i64 2)).setCell ⟨wr.heap.size, 1, none⟩ (.string ⟨X.toArray⟩))) (⟨2, X, a, [], false⟩ : T)
          have hsz1 : (((w2.setCell ⟨wr.heap.size, 0, none⟩ (.int .i64 2)).setCell ⟨wr.heap.size, 1, none⟩ (.string ⟨X.toArray⟩))).heap.size = w2.heap.size := by first | rfl | simp
          rw [hsz1] at hr1
          have HOWN := hide hown1
          have HRR := hide hr1
          have hwz := HS4.out.lt
          rw [hsz1] at hwz
          clear hown1 hr1 hsz1
          go_wp2_with (at_builtin; (refine wpList_append_any _ rfl (.tmp 133) (.tmp 135) 23 rfl (b + 1) 37 i5 _ 5 56 Tryd.underlying23 HI5.out hz0 hz1 hz2 rfl (by omega) (.slice A n c) n (tvs ts) rfl (by exact HOWN.out) (w2.heap.size + 1) (some ⟨w2.heap.size, 0, none⟩) 1 1 (tvs [(⟨2, X, a, [], false⟩ : T)]) rfl (by exact HRR.out) (tvs_one _) ?c1 ?c2 ?c3 ?_))
          case c1 => unfold maxLen; omega
          case c2 => omega
          case c3 => first | omega | (simp; omega)
          intro v1 W5 hown2 hg2 hat2
          obtain ⟨A2, c2, rfl, RS5⟩ := HS4.out.toks (t := ⟨2, X, a, [], false⟩) hown2 hg2
          have hbx5 := box_toks HX4.out HTW.out (Nat.le_refl _) hg2
          obtain ⟨⟨d0, d1, d2, d3, d4⟩, _⟩ := hbx5.five
          have hgl5 := hbx5.lt
          have HS5 := hide RS5
          clear hown2 hg2 hat2 RS5 hbx5
          go_wp2_with fail
          refine (XG.out _).mono ?_
          rintro e w9 ⟨rfl, rfl⟩
          go_wp2_with fail
          go_roundw
          case rel => exact ⟨⟨blankP p (a + X.length), ts ++ [⟨2, X, a, [], false⟩], wt, ft⟩, f, A2, n + 1, c2, A', n', c', rfl, rfl, rfl, by have := HNX.out.2.2.2.1; (try dsimp only at this ⊢); omega, HNX.out.2.2.2.2.1, hide HNX.out.1, hide HNX.out.2.1, hide HNX.out.2.2.1, HS5, HR3⟩
          case measure => have := HNX.out.2.2.2.1; have := HNX.out.2.2.2.2.1; (try dsimp only at *); simp [intOf]; omega
        have kx : (X != []) = false := by
          have h : X = [] := List.eq_nil_of_length_eq_zero (by have := HXL.out; omega)
          rw [h]; rfl
        have kx2 : (X == []) = true := by
          have h : X = [] := List.eq_nil_of_length_eq_zero (by have := HXL.out; omega)
          rw [h]; rfl
        replace HT := hide (HT.out.trans (if_neg hop))
        by_cases h38 : cc = 38
        · have ht38 : ((cc.toNat : Int) == 38) = true := by rw [t38, beq_iff_eq.2 h38]
          have hcc := HCC.out.trans h38
          obtain ⟨m1, m2⟩ := amp_alone hlt hcc
          have hwS : wordS p ⟨a, ts, wt, ft⟩ = (⟨a, ts, wt, a⟩, false) := by
            unfold wordS
            dsimp only
            rw [m2]
            dsimp only
            rw [if_neg (by decide), if_pos rfl]
          have hTk : tokenS p ⟨a, ts, wt, ft⟩ = (⟨a, ts, wt, a⟩, false) := by rw [HT.out, m1, if_neg (by omega), hwS]
          have HX : Hid (R = ([], 50, a)) := hide (by rw [HR2.out, hTk]; rfl)
          have HP3 := hide HS2.out.2.2.1
          have HB3 := hide HS2.out.2.2.2
          clear HT HR2 HNK HC1 HNB2 HCC HXE HXL hop t10 t38 h10 h38 hcc m1 m2 HWL HLX HNA hwS hTk
          go_wp2_with fail
          refine (XB50.out _ a (by omega)).mono ?_
          rintro e w9 ⟨rfl, hb9⟩
          have hp9 := HP3.out.below hb9 HP3.out.lt
          obtain ⟨x0, x1, y0, y1⟩ := hp9.two
          have hz9 := hp9.lt
          have HB9 : Hid (Below b w w9) := hide (HB3.out.trans (hb9.mono (Nat.le_of_lt HP3.out.lt)))
          clear hb9 hp9
          go_wp2_with fail
          refine bodyPost_ret (v := .tuple #[.slice none 0 0, .agg #[.int .i64 50, .int .i64 (a : Int)]]) (by simp only [results, Tryd.results8]; go_simp) rfl ?_
          rw [HX.out]
          exact ⟨none, 0, 0, rfl, World.ownsRow_nil _ _ _ _, by rw [HBE.out]; exact ((HB9.out.setCell (p := ⟨b, 0, none⟩) (Nat.le_refl _) _).setCell (p := ⟨b, 1, none⟩) (Nat.le_refl _) _)⟩
        have ht38 : ((cc.toNat : Int) == 38) = false := by rw [t38, beq_eq_false_iff_ne.2 h38]
        by_cases hnm : 0 < numP (p.drop a)
        · have hnA : nA = a + numP (p.drop a) := by rw [← HNA.out]; unfold numAt; rw [if_pos hnm]
          have kA : (0 : Int) < (nA : Int) := by omega
          have hsl := sl_two p a nA (a : Int) (nA : Int) rfl rfl (by omega) (by omega)
          rw [show nA - a = numP (p.drop a) by omega] at hsl
          obtain ⟨Y, hY⟩ : ∃ Y, (p.drop a).take (numP (p.drop a)) = Y := ⟨_, rfl⟩
          have hYl : Y.length = numP (p.drop a) := by rw [← hY, List.length_take, List.length_drop]; omega
          rw [hY] at hsl
          have ka1 : (a : Int) ≤ (nA : Int) := by omega
          have ka2 : (nA : Int) ≤ (p.length : Int) := by omega
          have hTk : tokenS p ⟨a, ts, wt, ft⟩ = (⟨a + Y.length, ts ++ [⟨3, Y, a, [], false⟩], wt, ft⟩, true) := by
            rw [HT.out, if_pos hnm]
            unfold addS
            dsimp only
            rw [hY, hYl]
          have HNX := hide (HNK.out _ hTk)
          have HR3 : Hid (R = scanL p f ⟨blankP p (a + Y.length), ts ++ [⟨3, Y, a, [], false⟩], wt, ft⟩) := hide (by rw [HR2.out, hTk]; rfl)
          have HYL := hide hYl
          have HNAE := hide hnA
          have hxb : a + Y.length ≤ p.length := by have := HYL.out; omega
          have kwx : IntKind.i64.wrap ((a : Int) + (Y.length : Int)) = (a : Int) + (Y.length : Int) := by simp [IntKind.wrap, IntKind.bits, IntKind.signed]; omega
          have XG : Hid (∀ W, Calls Tryd.prog 20 #[.string ⟨p.toArray⟩, .int .i64 ((a : Int) + (Y.length : Int))] W fun e w' => e = .returned (.int .i64 ((blankP p (a + Y.length) : Nat) : Int)) ∧ w' = W) := hide fun W => by
            have := gap_any p hl (a + Y.length) hxb W
            rwa [show ((a + Y.length : Nat) : Int) = (a : Int) + (Y.length : Int) by omega] at this
          clear HT HR2 HNK HC1 HNB2 HCC HXE HXL hTk t10 t38 h10 hop hnm HWL HLX HNA hY hYl hnA h38
          go_wp2_with fail
          refine wp_region_M (fun V => True) 7 rfl trivial (fun hHeld => ?_)
          refine wpAnyM_take (i := 0) (v := ?_) rfl rfl (by kernel_rfl) (fun _ _ _ h => h) (Or.inl ⟨by rfl, ?_⟩) (by trivial) ?_
          rotate_left
          · (intro V hV; (try dsimp only at hV); go_simp; with_reducible rfl)
          try simp only [Act.put, List.setIfInBounds_toArray, List.set_cons_zero, List.set_cons_succ]
          refine wpAnyM_take (i := 1) (v := ?_) rfl rfl (by kernel_rfl) (fun _ _ _ h => h) (Or.inl ⟨by rfl, ?_⟩) (by trivial) ?_
          rotate_left
          · (intro V hV; (try dsimp only at hV); go_simp; with_reducible rfl)
          try simp only [Act.put, List.setIfInBounds_toArray, List.set_cons_zero, List.set_cons_succ]
          refine wpAnyM_take (i := 2) (v := ?_) rfl rfl (by kernel_rfl) (fun _ _ _ h => h) (Or.inl ⟨by rfl, ?_⟩) (by trivial) ?_
          rotate_left
          · (intro V hV; (try dsimp only at hV); go_simp; with_reducible rfl)
          try simp only [Act.put, List.setIfInBounds_toArray, List.set_cons_zero, List.set_cons_succ]
          refine wpAnyM_take (i := 3) (v := ?_) rfl rfl (by kernel_rfl) (fun _ _ _ h => h) (Or.inl ⟨by rfl, ?_⟩) (by trivial) ?_
          rotate_left
          · (intro V hV; (try dsimp only at hV); go_simp; with_reducible rfl)
          try simp only [Act.put, List.setIfInBounds_toArray, List.set_cons_zero, List.set_cons_succ]
          refine wpAnyM_take (i := 4) (v := ?_) rfl rfl (by kernel_rfl) (fun _ _ _ h => h) (Or.inl ⟨by rfl, ?_⟩) (by trivial) ?_
          rotate_left
          · (intro V hV; (try dsimp only at hV); go_simp; with_reducible rfl)
          try simp only [Act.put, List.setIfInBounds_toArray, List.set_cons_zero, List.set_cons_succ]
          refine wpAnyM_step (i := 5) (by kernel_rfl) rfl rfl (fun K hK => ?_)
          go_simp
          refine hK.out _ _ (fun _ => trivial) ?_
          clear hK K
          try simp only [List.setIfInBounds_toArray]
          refine wpAnyM_take (i := 6) (v := ?_) rfl rfl (by kernel_rfl) (fun _ _ _ h => h) (Or.inl ⟨by rfl, ?_⟩) (by trivial) ?_
          rotate_left
          · (intro V hV; (try dsimp only at hV); go_simp; with_reducible rfl)
          try simp only [Act.put, List.setIfInBounds_toArray, List.set_cons_zero, List.set_cons_succ]
          refine wpAnyM_step (i := 7) (by kernel_rfl) rfl rfl (fun K hK => ?_)
          go_simp
          refine hK.out _ _ (fun h => absurd rfl h) ?_
          refine wpAnyM_done (by kernel_rfl) ?_ _
          clear hK K hHeld
          refine name_w (fun W => Hid (Blk W wr.heap.size 37 #[.int .i64 3, .string ⟨Y.toArray⟩, .int .i64 (a : Int), .string ⟨#[]⟩, .bool false]) ∧ Hid (RS b w W A n c A' n' c' ts wt)) ⟨hide (((HG2.out.drewN _).set_ 0 _).set_ 1 _), hide (HS.out.below (((belowN _ HWR2.out).setCell (p := ⟨wr.heap.size, 0, none⟩) (Nat.le_refl _) _).setCell (p := ⟨wr.heap.size, 1, none⟩) (Nat.le_refl _) _))⟩ ?_
          rintro W4 ⟨HX4, HS4⟩
          obtain ⟨⟨e0, e1, e2, e3, e4⟩, _⟩ := HX4.out.five
          have hgl4 := HX4.out.lt
          clear g0 g1 g2 g3 g4 fz0 fz1 fz2 fz3 fz4 hgl2
          have hown1 := World.ownsRow.alloc HS4.out.1 (.cells #[.int .i64 (((⟨3, Y, a, [], false⟩ : T).kind : Nat) : Int), .string ⟨(⟨3, Y, a, [], false⟩ : T).text.toArray⟩, .int .i64 ((⟨3, Y, a, [], false⟩ : T).at_ : Int), .string ⟨(⟨3, Y, a, [], false⟩ : T).doc.toArray⟩, .bool (⟨3, Y, a, [], false⟩ : T).quoted] 37)
          have hr1 := one_tok (W4) (⟨3, Y, a, [], false⟩ : T)
          have hsz1 : (W4).heap.size = W4.heap.size := by first | rfl | simp
          rw [hsz1] at hr1
          have HOWN := hide hown1
          have HRR := hide hr1
          have hwz := HS4.out.lt
          rw [hsz1] at hwz
          clear hown1 hr1 hsz1
          go_wp2_with (at_builtin; (refine wpList_append_any _ rfl (.tmp 133) (.tmp 135) 23 rfl (b + 1) 37 i5 _ 5 56 Tryd.underlying23 HI5.out hz0 hz1 hz2 rfl (by omega) (.slice A n c) n (tvs ts) rfl (by exact HOWN.out) (W4.heap.size + 1) (some ⟨W4.heap.size, 0, none⟩) 1 1 (tvs [(⟨3, Y, a, [], false⟩ : T)]) rfl (by exact HRR.out) (tvs_one _) ?c1 ?c2 ?c3 ?_))
          case c1 => unfold maxLen; omega
          case c2 => omega
          case c3 => first | omega | (simp; omega)
          intro v1 W5 hown2 hg2 hat2
          obtain ⟨A2, c2, rfl, RS5⟩ := HS4.out.toks (t := ⟨3, Y, a, [], false⟩) hown2 hg2
          have hbx5 := box_toks HX4.out HTW.out (Nat.le_refl _) hg2
          obtain ⟨⟨d0, d1, d2, d3, d4⟩, _⟩ := hbx5.five
          have hgl5 := hbx5.lt
          have HS5 := hide RS5
          clear hown2 hg2 hat2 RS5 hbx5
          go_wp2_with fail
          refine (XG.out _).mono ?_
          rintro e w9 ⟨rfl, rfl⟩
          go_wp2_with fail
          go_roundw
          case rel => exact ⟨⟨blankP p (a + Y.length), ts ++ [⟨3, Y, a, [], false⟩], wt, ft⟩, f, A2, n + 1, c2, A', n', c', rfl, rfl, rfl, by have := HNX.out.2.2.2.1; (try dsimp only at this ⊢); omega, HNX.out.2.2.2.2.1, hide HNX.out.1, hide HNX.out.2.1, hide HNX.out.2.2.1, HS5, HR3⟩
          case measure => have := HNX.out.2.2.2.1; have := HNX.out.2.2.2.2.1; (try dsimp only at *); simp [intOf]; omega
        have hnA : nA = 0 := by rw [← HNA.out]; unfold numAt; rw [if_neg hnm]
        have kA : ¬ (0 : Int) < (nA : Int) := by omega
        replace HT := hide (HT.out.trans (if_neg hnm))
        have hend := word_pos hlt HNB2.out (by rw [HCC.out]; exact h10) hop (by rw [HCC.out]; exact h38)
        have hgtw := word_gt hlt hend
        have hwf := wordL_facts p (p.length + 1) a hat
        have XW := hide (fun W => refword_any p hl a hat W)
        have hwS : ∀ V, wordL p (p.length + 1) a = V → wordS p ⟨a, ts, wt, ft⟩ = (if V.2 = false then ((⟨a, ts, wt, V.1⟩ : S), false) else if V.1 = a then (⟨a, ts, wt, a⟩, false) else (addS p ⟨a, ts, if hereT ts = true then wt ++ [ts.length] else wt, ft⟩ 1 (V.1 - a), true)) := by
          intro V hV
          rw [← hV]
          rfl
        obtain ⟨V, hV⟩ : ∃ V, wordL p (p.length + 1) a = V := ⟨_, rfl⟩
        have hwS := hwS V hV
        rw [hV] at XW hgtw hwf
        obtain ⟨v1, v2⟩ := V
        dsimp only at XW hgtw hwf hwS
        have hv1 := hwf.1
        cases v2 with
        | false =>
          have hTk : tokenS p ⟨a, ts, wt, ft⟩ = (⟨a, ts, wt, v1⟩, false) := by rw [HT.out, hwS, if_pos rfl]
          have HX : Hid (R = ([], 50, v1)) := hide (by rw [HR2.out, hTk]; rfl)
          have HP3 := hide HS2.out.2.2.1
          have HB3 := hide HS2.out.2.2.2
          clear HT HR2 HNK HC1 HNB2 HCC HXE HXL hop t10 t38 h10 h38 HWL HLX HNA hwS hTk hV hgtw hwf hend hnA hnm
          go_wp2_with fail
          refine (XW.out _).mono ?_
          rintro e w3 ⟨rfl, rfl⟩
          go_wp2_with fail
          refine (XB50.out _ v1 (by omega)).mono ?_
          rintro e w9 ⟨rfl, hb9⟩
          have hp9 := HP3.out.below hb9 HP3.out.lt
          obtain ⟨x0, x1, y0, y1⟩ := hp9.two
          have hz9 := hp9.lt
          have HB9 : Hid (Below b w w9) := hide (HB3.out.trans (hb9.mono (Nat.le_of_lt HP3.out.lt)))
          clear hb9 hp9
          go_wp2_with fail
          refine bodyPost_ret (v := .tuple #[.slice none 0 0, .agg #[.int .i64 50, .int .i64 (v1 : Int)]]) (by simp only [results, Tryd.results8]; go_simp) rfl ?_
          rw [HX.out]
          exact ⟨none, 0, 0, rfl, World.ownsRow_nil _ _ _ _, by rw [HBE.out]; exact ((HB9.out.setCell (p := ⟨b, 0, none⟩) (Nat.le_refl _) _).setCell (p := ⟨b, 1, none⟩) (Nat.le_refl _) _)⟩
        | true =>
          have hv2 := hgtw rfl
          have hsl := sl_two p a v1 (a : Int) (v1 : Int) rfl rfl (by omega) (by omega)
          obtain ⟨Y, hY⟩ : ∃ Y, (p.drop a).take (v1 - a) = Y := ⟨_, rfl⟩
          have hYl : Y.length = v1 - a := by rw [← hY, List.length_take, List.length_drop]; omega
          rw [hY] at hsl
          have ka1 : (a : Int) ≤ (v1 : Int) := by omega
          have ka2 : (v1 : Int) ≤ (p.length : Int) := by omega
          have hTk : tokenS p ⟨a, ts, wt, ft⟩ = (⟨a + Y.length, ts ++ [⟨1, Y, a, [], false⟩], if hereT ts = true then wt ++ [ts.length] else wt, ft⟩, true) := by
            rw [HT.out, hwS, if_neg (by decide), if_neg (by omega)]
            unfold addS
            dsimp only
            rw [hY, hYl]
          have HTK := hide hTk
          have HYL := hide hYl
          have hxb : a + Y.length ≤ p.length := by have := HYL.out; omega
          have kwx : IntKind.i64.wrap ((a : Int) + (Y.length : Int)) = (a : Int) + (Y.length : Int) := by simp [IntKind.wrap, IntKind.bits, IntKind.signed]; omega
          have XG : Hid (∀ W, Calls Tryd.prog 20 #[.string ⟨p.toArray⟩, .int .i64 ((a : Int) + (Y.length : Int))] W fun e w' => e = .returned (.int .i64 ((blankP p (a + Y.length) : Nat) : Int)) ∧ w' = W) := hide fun W => by
            have := gap_any p hl (a + Y.length) hxb W
            rwa [show ((a + Y.length : Nat) : Int) = (a : Int) + (Y.length : Int) by omega] at this
          clear HT HC1 HNB2 HCC HXE HXL hop t10 t38 h10 h38 HWL HLX HNA hwS hTk hV hgtw hwf hend hnA hnm hY hYl
          go_wp2_with fail
          refine (XW.out _).mono ?_
          rintro e w3 ⟨rfl, rfl⟩
          go_wp2_with fail
          refine wp_region_M (fun V => True) 7 rfl trivial (fun hHeld => ?_)
          refine wpAnyM_take (i := 0) (v := ?_) rfl rfl (by kernel_rfl) (fun _ _ _ h => h) (Or.inl ⟨by rfl, ?_⟩) (by trivial) ?_
          rotate_left
          · (intro V hV; (try dsimp only at hV); go_simp; with_reducible rfl)
          try simp only [Act.put, List.setIfInBounds_toArray, List.set_cons_zero, List.set_cons_succ]
          refine wpAnyM_take (i := 1) (v := ?_) rfl rfl (by kernel_rfl) (fun _ _ _ h => h) (Or.inl ⟨by rfl, ?_⟩) (by trivial) ?_
          rotate_left
          · (intro V hV; (try dsimp only at hV); go_simp; with_reducible rfl)
          try simp only [Act.put, List.setIfInBounds_toArray, List.set_cons_zero, List.set_cons_succ]
          refine wpAnyM_take (i := 2) (v := ?_) rfl rfl (by kernel_rfl) (fun _ _ _ h => h) (Or.inl ⟨by rfl, ?_⟩) (by trivial) ?_
          rotate_left
          · (intro V hV; (try dsimp only at hV); go_simp; with_reducible rfl)
          try simp only [Act.put, List.setIfInBounds_toArray, List.set_cons_zero, List.set_cons_succ]
          refine wpAnyM_take (i := 3) (v := ?_) rfl rfl (by kernel_rfl) (fun _ _ _ h => h) (Or.inl ⟨by rfl, ?_⟩) (by trivial) ?_
          rotate_left
          · (intro V hV; (try dsimp only at hV); go_simp; with_reducible rfl)
          try simp only [Act.put, List.setIfInBounds_toArray, List.set_cons_zero, List.set_cons_succ]
          refine wpAnyM_take (i := 4) (v := ?_) rfl rfl (by kernel_rfl) (fun _ _ _ h => h) (Or.inl ⟨by rfl, ?_⟩) (by trivial) ?_
          rotate_left
          · (intro V hV; (try dsimp only at hV); go_simp; with_reducible rfl)
          try simp only [Act.put, List.setIfInBounds_toArray, List.set_cons_zero, List.set_cons_succ]
          refine wpAnyM_step (i := 5) (by kernel_rfl) rfl rfl (fun K hK => ?_)
          go_simp
          refine hK.out _ _ (fun _ => trivial) ?_
          clear hK K
          try simp only [List.setIfInBounds_toArray]
          refine wpAnyM_take (i := 6) (v := ?_) rfl rfl (by kernel_rfl) (fun _ _ _ h => h) (Or.inl ⟨by rfl, ?_⟩) (by trivial) ?_
          rotate_left
          · (intro V hV; (try dsimp only at hV); go_simp; with_reducible rfl)
          try simp only [Act.put, List.setIfInBounds_toArray, List.set_cons_zero, List.set_cons_succ]
          refine wpAnyM_step (i := 7) (by kernel_rfl) rfl rfl (fun K hK => ?_)
          go_simp
          refine hK.out _ _ (fun h => absurd rfl h) ?_
          refine wpAnyM_done (by kernel_rfl) ?_ _
          clear hK K hHeld
          refine name_w (fun W => Hid (Blk W wr.heap.size 37 #[.int .i64 1, .string ⟨Y.toArray⟩, .int .i64 (a : Int), .string ⟨#[]⟩, .bool false]) ∧ Hid (RS b w W A n c A' n' c' ts wt)) ⟨hide (((HG2.out.drewN _).set_ 0 _).set_ 1 _), hide (HS.out.below (((belowN _ HWR2.out).setCell (p := ⟨wr.heap.size, 0, none⟩) (Nat.le_refl _) _).setCell (p := ⟨wr.heap.size, 1, none⟩) (Nat.le_refl _) _))⟩ ?_
          rintro W4 ⟨HX4, HS4⟩
          obtain ⟨⟨e0, e1, e2, e3, e4⟩, _⟩ := HX4.out.five
          have hgl4 := HX4.out.lt
          clear g0 g1 g2 g3 g4 fz0 fz1 fz2 fz3 fz4 hgl2
          by_cases hn0 : n = 0
          · have kn : ¬ (0 : Int) < (n : Int) := by omega
            have hts : ts = [] := List.eq_nil_of_length_eq_zero (by rw [HN.out]; exact hn0)
            have hhf : hereT ts = false := by rw [hts]; rfl
            have hTk2 : tokenS p ⟨a, ts, wt, ft⟩ = (⟨a + Y.length, ts ++ [⟨1, Y, a, [], false⟩], wt, ft⟩, true) := by rw [HTK.out, if_neg (by rw [hhf]; decide)]
            have HNX := hide (HNK.out _ hTk2)
            have HR3 : Hid (R = scanL p f ⟨blankP p (a + Y.length), ts ++ [⟨1, Y, a, [], false⟩], wt, ft⟩) := hide (by rw [HR2.out, hTk2]; rfl)
            clear hTk2 HTK HNK HR2
            clear hts hhf hn0
            have hown1 := World.ownsRow.alloc HS4.out.1 (.cells #[.int .i64 (((⟨1, Y, a, [], false⟩ : T).kind : Nat) : Int), .string ⟨(⟨1, Y, a, [], false⟩ : T).text.toArray⟩, .int .i64 ((⟨1, Y, a, [], false⟩ : T).at_ : Int), .string ⟨(⟨1, Y, a, [], false⟩ : T).doc.toArray⟩, .bool (⟨1, Y, a, [], false⟩ : T).quoted] 37)
            have hr1 := one_tok (W4) (⟨1, Y, a, [], false⟩ : T)
            have hsz1 : (W4).heap.size = W4.heap.size := by first | rfl | simp
            rw [hsz1] at hr1
            have HOWN := hide hown1
            have HRR := hide hr1
            have hwz := HS4.out.lt
            rw [hsz1] at hwz
            clear hown1 hr1 hsz1
            go_wp2_with (at_builtin; (refine wpList_append_any _ rfl (.tmp 133) (.tmp 135) 23 rfl (b + 1) 37 i5 _ 5 56 Tryd.underlying23 HI5.out hz0 hz1 hz2 rfl (by omega) (.slice A n c) n (tvs ts) rfl (by exact HOWN.out) (W4.heap.size + 1) (some ⟨W4.heap.size, 0, none⟩) 1 1 (tvs [(⟨1, Y, a, [], false⟩ : T)]) rfl (by exact HRR.out) (tvs_one _) ?c1 ?c2 ?c3 ?_))
            case c1 => unfold maxLen; omega
            case c2 => omega
            case c3 => first | omega | (simp; omega)
            intro v1 W5 hown2 hg2 hat2
            obtain ⟨A2, c2, rfl, RS5⟩ := HS4.out.toks (t := ⟨1, Y, a, [], false⟩) hown2 hg2
            have hbx5 := box_toks HX4.out HTW.out (Nat.le_refl _) hg2
            obtain ⟨⟨d0, d1, d2, d3, d4⟩, _⟩ := hbx5.five
            have hgl5 := hbx5.lt
            have HS5 := hide RS5
            clear hown2 hg2 hat2 RS5 hbx5
            go_wp2_with fail
            refine (XG.out _).mono ?_
            rintro e w9 ⟨rfl, rfl⟩
            go_wp2_with fail
            go_roundw
            case rel => exact ⟨⟨blankP p (a + Y.length), ts ++ [⟨1, Y, a, [], false⟩], wt, ft⟩, f, A2, n + 1, c2, A', n', c', rfl, rfl, rfl, by have := HNX.out.2.2.2.1; (try dsimp only at this ⊢); omega, HNX.out.2.2.2.2.1, hide HNX.out.1, hide HNX.out.2.1, hide HNX.out.2.2.1, HS5, HR3⟩
            case measure => have := HNX.out.2.2.2.1; have := HNX.out.2.2.2.2.1; (try dsimp only at *); simp [intOf]; omega
          have kn : (0 : Int) < (n : Int) := by omega
          have hnl : ts.length = n := HN.out
          have hmm : ts.length - 1 < ts.length := by omega
          have hlast := last_tok ts (by omega)
          obtain ⟨g1, hg1, _, hg1l⟩ := To.addr (s := ⟨0, ts, [], 0⟩) HTW.out (by omega : 0 < n)
          have HT4 := HS4.out.1
          rw [hg1] at HT4
          have ck := To.cell HT4 hmm 0 (by omega)
          have ct := To.cell HT4 hmm 1 (by omega)
          generalize ts[ts.length - 1] = tt at *
          obtain ⟨tk, tx, ta, td, tq⟩ := tt
          dsimp only [tokV, sv] at ck ct hlast
          simp only [List.getElem?_cons_zero, List.getElem?_cons_succ, Nat.add_zero] at ck ct
          rw [hnl] at ck ct
          have hw7 : IntKind.i64.wrap ((n : Int) - 1) = (n : Int) - 1 := by simp [IntKind.wrap, IntKind.bits, IntKind.signed]; omega
          have hia : ∀ W, (Instr.indexAt 23 (.slice A n c) (.int .i64 ((n : Int) - 1))).run Tryd.prog W = .ok (.pointer (some ⟨g1, (n - 1) * 5, none⟩)) W := fun W => by rw [hg1]; exact tok_at g1 n c (n - 1) ((n : Int) - 1) (by omega) (by omega) W
          have tk2 : ((tk : Int) == 2) = (tk == 2) := by rw [Bool.eq_iff_iff, beq_iff_eq, beq_iff_eq]; omega
          have HLAST := hide hlast
          have HNL := hide hnl
          clear hlast hnl hg1 hmm HT4
          by_cases hk2 : tk = 2
          · rw [beq_iff_eq.2 hk2] at tk2 HLAST
            by_cases hx : tx = [60, 60]
            · have hxb : (tx == [60, 60]) = true := beq_iff_eq.2 hx
              rw [hxb] at HLAST
              have hht : hereT ts = true := HLAST.out
              have HTK : Hid (tokenS p ⟨a, ts, wt, ft⟩ = (⟨a + Y.length, ts ++ [⟨1, Y, a, [], false⟩], if hereT ts = true then wt ++ [n] else wt, ft⟩, true)) := hide (by rw [← HNL.out]; exact HTK.out)
              have hTk2 : tokenS p ⟨a, ts, wt, ft⟩ = (⟨a + Y.length, ts ++ [⟨1, Y, a, [], false⟩], wt ++ [n], ft⟩, true) := by rw [HTK.out, if_pos hht]
              have HNX := hide (HNK.out _ hTk2)
              have HR3 : Hid (R = scanL p f ⟨blankP p (a + Y.length), ts ++ [⟨1, Y, a, [], false⟩], wt ++ [n], ft⟩) := hide (by rw [HR2.out, hTk2]; rfl)
              clear hTk2 HTK HNK HR2
              clear hht hx hk2 HLAST
              have hoa := World.ownsRow.alloc HS4.out.2.1 (.cells #[.int .i64 (n : Int)] 3)
              have hri := one_int W4 n
              have HOA := hide hoa
              have HRI := hide hri
              have hwz4 := HS4.out.lt
              clear hoa hri
              go_wp2_with (at_builtin; (refine wpList_append_any _ rfl (.tmp 75) (.tmp 78) 38 rfl (b + 1) 3 iI _ 1 8 Tryd.underlying38 HII.out yz0 yz1 yz2 rfl (by omega) (.slice A' n' c') n' (ivs wt) rfl (by exact HOA.out) (W4.heap.size + 1) (some ⟨W4.heap.size, 0, none⟩) 1 1 (ivs [n]) rfl (by exact HRI.out) (ivs_one _) ?c4 ?c5 ?c6 ?_))
              case c4 => unfold maxLen; omega
              case c5 => omega
              case c6 => first | omega | (simp; omega)
              intro v6 W6 hown6 hg6 hat6
              obtain ⟨A3, c6, rfl, RS6⟩ := HS4.out.waits (k := n) hown6 hg6
              have hbx6 := box_waits HX4.out HS4.out.2.1 hg6
              obtain ⟨⟨r0, r1, r2, r3, r4⟩, _⟩ := hbx6.five
              have hgl6 := hbx6.lt
              clear ck ct e0 e1 e2 e3 e4 hgl4 HOA HRI hwz4
              have HS4 := hide RS6
              have HX4 := hide hbx6
              clear hown6 hg6 hat6 RS6 hbx6
              have hown1 := World.ownsRow.alloc HS4.out.1 (.cells #[.int .i64 (((⟨1, Y, a, [], false⟩ : T).kind : Nat) : Int), .string ⟨(⟨1, Y, a, [], false⟩ : T).text.toArray⟩, .int .i64 ((⟨1, Y, a, [], false⟩ : T).at_ : Int), .string ⟨(⟨1, Y, a, [], false⟩ : T).doc.toArray⟩, .bool (⟨1, Y, a, [], false⟩ : T).quoted] 37)
              have hr1 := one_tok (W6) (⟨1, Y, a, [], false⟩ : T)
              have hsz1 : (W6).heap.size = W6.heap.size := by first | rfl | simp
              rw [hsz1] at hr1
              have HOWN := hide hown1
              have HRR := hide hr1
              have hwz := HS4.out.lt
              rw [hsz1] at hwz
              clear hown1 hr1 hsz1
              go_wp2_with (at_builtin; (refine wpList_append_any _ rfl (.tmp 133) (.tmp 135) 23 rfl (b + 1) 37 i5 _ 5 56 Tryd.underlying23 HI5.out hz0 hz1 hz2 rfl (by omega) (.slice A n c) n (tvs ts) rfl (by exact HOWN.out) (W6.heap.size + 1) (some ⟨W6.heap.size, 0, none⟩) 1 1 (tvs [(⟨1, Y, a, [], false⟩ : T)]) rfl (by exact HRR.out) (tvs_one _) ?c1 ?c2 ?c3 ?_))
              case c1 => unfold maxLen; omega
              case c2 => omega
              case c3 => first | omega | (simp; omega)
              intro v1 W5 hown2 hg2 hat2
              obtain ⟨A2, c2, rfl, RS5⟩ := HS4.out.toks (t := ⟨1, Y, a, [], false⟩) hown2 hg2
              have hbx5 := box_toks HX4.out HTW.out (Nat.le_refl _) hg2
              obtain ⟨⟨d0, d1, d2, d3, d4⟩, _⟩ := hbx5.five
              have hgl5 := hbx5.lt
              have HS5 := hide RS5
              clear hown2 hg2 hat2 RS5 hbx5
              go_wp2_with fail
              refine (XG.out _).mono ?_
              rintro e w9 ⟨rfl, rfl⟩
              go_wp2_with fail
              go_roundw
              case rel => exact ⟨⟨blankP p (a + Y.length), ts ++ [⟨1, Y, a, [], false⟩], wt ++ [n], ft⟩, f, A2, n + 1, c2, A3, n' + 1, c6, rfl, rfl, rfl, by have := HNX.out.2.2.2.1; (try dsimp only at this ⊢); omega, HNX.out.2.2.2.2.1, hide HNX.out.1, hide HNX.out.2.1, hide HNX.out.2.2.1, HS5, HR3⟩
              case measure => have := HNX.out.2.2.2.1; have := HNX.out.2.2.2.2.1; (try dsimp only at *); simp [intOf]; omega
            · have hxb : (tx == [60, 60]) = false := beq_eq_false_iff_ne.2 hx
              rw [hxb] at HLAST
              have hht : hereT ts = false := HLAST.out
              have hTk2 : tokenS p ⟨a, ts, wt, ft⟩ = (⟨a + Y.length, ts ++ [⟨1, Y, a, [], false⟩], wt, ft⟩, true) := by rw [HTK.out, if_neg (by rw [hht]; decide)]
              have HNX := hide (HNK.out _ hTk2)
              have HR3 : Hid (R = scanL p f ⟨blankP p (a + Y.length), ts ++ [⟨1, Y, a, [], false⟩], wt, ft⟩) := hide (by rw [HR2.out, hTk2]; rfl)
              clear hTk2 HTK HNK HR2
              clear hht hx hk2 HLAST
              have hown1 := World.ownsRow.alloc HS4.out.1 (.cells #[.int .i64 (((⟨1, Y, a, [], false⟩ : T).kind : Nat) : Int), .string ⟨(⟨1, Y, a, [], false⟩ : T).text.toArray⟩, .int .i64 ((⟨1, Y, a, [], false⟩ : T).at_ : Int), .string ⟨(⟨1, Y, a, [], false⟩ : T).doc.toArray⟩, .bool (⟨1, Y, a, [], false⟩ : T).quoted] 37)
              have hr1 := one_tok (W4) (⟨1, Y, a, [], false⟩ : T)
              have hsz1 : (W4).heap.size = W4.heap.size := by first | rfl | simp
              rw [hsz1] at hr1
              have HOWN := hide hown1
              have HRR := hide hr1
              have hwz := HS4.out.lt
              rw [hsz1] at hwz
              clear hown1 hr1 hsz1
              go_wp2_with (at_builtin; (refine wpList_append_any _ rfl (.tmp 133) (.tmp 135) 23 rfl (b + 1) 37 i5 _ 5 56 Tryd.underlying23 HI5.out hz0 hz1 hz2 rfl (by omega) (.slice A n c) n (tvs ts) rfl (by exact HOWN.out) (W4.heap.size + 1) (some ⟨W4.heap.size, 0, none⟩) 1 1 (tvs [(⟨1, Y, a, [], false⟩ : T)]) rfl (by exact HRR.out) (tvs_one _) ?c1 ?c2 ?c3 ?_))
              case c1 => unfold maxLen; omega
              case c2 => omega
              case c3 => first | omega | (simp; omega)
              intro v1 W5 hown2 hg2 hat2
              obtain ⟨A2, c2, rfl, RS5⟩ := HS4.out.toks (t := ⟨1, Y, a, [], false⟩) hown2 hg2
              have hbx5 := box_toks HX4.out HTW.out (Nat.le_refl _) hg2
              obtain ⟨⟨d0, d1, d2, d3, d4⟩, _⟩ := hbx5.five
              have hgl5 := hbx5.lt
              have HS5 := hide RS5
              clear hown2 hg2 hat2 RS5 hbx5
              go_wp2_with fail
              refine (XG.out _).mono ?_
              rintro e w9 ⟨rfl, rfl⟩
              go_wp2_with fail
              go_roundw
              case rel => exact ⟨⟨blankP p (a + Y.length), ts ++ [⟨1, Y, a, [], false⟩], wt, ft⟩, f, A2, n + 1, c2, A', n', c', rfl, rfl, rfl, by have := HNX.out.2.2.2.1; (try dsimp only at this ⊢); omega, HNX.out.2.2.2.2.1, hide HNX.out.1, hide HNX.out.2.1, hide HNX.out.2.2.1, HS5, HR3⟩
              case measure => have := HNX.out.2.2.2.1; have := HNX.out.2.2.2.2.1; (try dsimp only at *); simp [intOf]; omega
          · rw [beq_eq_false_iff_ne.2 hk2] at tk2 HLAST
            have hht : hereT ts = false := by rw [HLAST.out]; rfl
            have hTk2 : tokenS p ⟨a, ts, wt, ft⟩ = (⟨a + Y.length, ts ++ [⟨1, Y, a, [], false⟩], wt, ft⟩, true) := by rw [HTK.out, if_neg (by rw [hht]; decide)]
            have HNX := hide (HNK.out _ hTk2)
            have HR3 : Hid (R = scanL p f ⟨blankP p (a + Y.length), ts ++ [⟨1, Y, a, [], false⟩], wt, ft⟩) := hide (by rw [HR2.out, hTk2]; rfl)
            clear hTk2 HTK HNK HR2
            clear hht hk2 HLAST
            have hown1 := World.ownsRow.alloc HS4.out.1 (.cells #[.int .i64 (((⟨1, Y, a, [], false⟩ : T).kind : Nat) : Int), .string ⟨(⟨1, Y, a, [], false⟩ : T).text.toArray⟩, .int .i64 ((⟨1, Y, a, [], false⟩ : T).at_ : Int), .string ⟨(⟨1, Y, a, [], false⟩ : T).doc.toArray⟩, .bool (⟨1, Y, a, [], false⟩ : T).quoted] 37)
            have hr1 := one_tok (W4) (⟨1, Y, a, [], false⟩ : T)
            have hsz1 : (W4).heap.size = W4.heap.size := by first | rfl | simp
            rw [hsz1] at hr1
            have HOWN := hide hown1
            have HRR := hide hr1
            have hwz := HS4.out.lt
            rw [hsz1] at hwz
            clear hown1 hr1 hsz1
            go_wp2_with (at_builtin; (refine wpList_append_any _ rfl (.tmp 133) (.tmp 135) 23 rfl (b + 1) 37 i5 _ 5 56 Tryd.underlying23 HI5.out hz0 hz1 hz2 rfl (by omega) (.slice A n c) n (tvs ts) rfl (by exact HOWN.out) (W4.heap.size + 1) (some ⟨W4.heap.size, 0, none⟩) 1 1 (tvs [(⟨1, Y, a, [], false⟩ : T)]) rfl (by exact HRR.out) (tvs_one _) ?c1 ?c2 ?c3 ?_))
            case c1 => unfold maxLen; omega
            case c2 => omega
            case c3 => first | omega | (simp; omega)
            intro v1 W5 hown2 hg2 hat2
            obtain ⟨A2, c2, rfl, RS5⟩ := HS4.out.toks (t := ⟨1, Y, a, [], false⟩) hown2 hg2
            have hbx5 := box_toks HX4.out HTW.out (Nat.le_refl _) hg2
            obtain ⟨⟨d0, d1, d2, d3, d4⟩, _⟩ := hbx5.five
            have hgl5 := hbx5.lt
            have HS5 := hide RS5
            clear hown2 hg2 hat2 RS5 hbx5
            go_wp2_with fail
            refine (XG.out _).mono ?_
            rintro e w9 ⟨rfl, rfl⟩
            go_wp2_with fail
            go_roundw
            case rel => exact ⟨⟨blankP p (a + Y.length), ts ++ [⟨1, Y, a, [], false⟩], wt, ft⟩, f, A2, n + 1, c2, A', n', c', rfl, rfl, rfl, by have := HNX.out.2.2.2.1; (try dsimp only at this ⊢); omega, HNX.out.2.2.2.2.1, hide HNX.out.1, hide HNX.out.2.1, hide HNX.out.2.2.1, HS5, HR3⟩
            case measure => have := HNX.out.2.2.2.1; have := HNX.out.2.2.2.2.1; (try dsimp only at *); simp [intOf]; omega
      · have hk1 : ¬ (a : Int) < (p.length : Int) := by omega
        obtain ⟨f, rfl⟩ : ∃ g, f = g + 1 := ⟨f - 1, by omega⟩
        have hR2 := HR.out
        unfold scanL at hR2
        rw [if_pos (by dsimp only; omega)] at hR2
        dsimp only at hR2
        obtain rfl : a = p.length := by omega
        have HR2 := hide hR2
        clear hR2 HR HNB HOK HSR
        by_cases hw : wt = []
        · have hw0 : n' = 0 := by have := HN'.out; rw [hw] at this; simp at this; omega
          subst hw0
          have HX : Hid (R = (ts ++ [⟨5, [], p.length, [], false⟩], 0, 0)) := hide (by rw [HR2.out, if_pos hw]; rfl)
          obtain ⟨z0, z1, fz0, fz1⟩ := HS.out.2.2.1.two
          clear HR2 hw HN'
          have hown1 := World.ownsRow.alloc HS.out.1 (.cells #[.int .i64 (((⟨5, [], p.length, [], false⟩ : T).kind : Nat) : Int), .string ⟨(⟨5, [], p.length, [], false⟩ : T).text.toArray⟩, .int .i64 ((⟨5, [], p.length, [], false⟩ : T).at_ : Int), .string ⟨(⟨5, [], p.length, [], false⟩ : T).doc.toArray⟩, .bool (⟨5, [], p.length, [], false⟩ : T).quoted] 37)
          have hr1 := one_tok (wr) (⟨5, [], p.length, [], false⟩ : T)
          have hsz1 : (wr).heap.size = wr.heap.size := by first | rfl | simp
          rw [hsz1] at hr1
          have HOWN := hide hown1
          have HRR := hide hr1
          have hwz := HS.out.lt
          rw [hsz1] at hwz
          clear hown1 hr1 hsz1
          go_wp2_with (at_builtin; (refine wpList_append_any _ rfl (.tmp 152) (.tmp 156) 23 rfl (b + 1) 37 i5 _ 5 56 Tryd.underlying23 HI5.out hz0 hz1 hz2 rfl (by omega) (.slice A n c) n (tvs ts) rfl (by exact HOWN.out) (wr.heap.size + 1) (some ⟨wr.heap.size, 0, none⟩) 1 1 (tvs [(⟨5, [], p.length, [], false⟩ : T)]) rfl (by exact HRR.out) (tvs_one _) ?c1 ?c2 ?c3 ?_))
          case c1 => unfold maxLen; omega
          case c2 => omega
          case c3 => first | omega | (simp; omega)
          intro v1 W5 hown2 hg2 hat2
          obtain ⟨A2, c2, rfl, RS5⟩ := HS.out.toks (t := ⟨5, [], p.length, [], false⟩) hown2 hg2
          obtain ⟨x0, x1, y0, y1⟩ := RS5.2.2.1.two
          have hb5 := RS5.lt
          have HS5 := hide RS5
          clear hown2 hg2 hat2 RS5 z0 z1 fz0 fz1
          go_wp2_with fail
          refine bodyPost_ret (v := .tuple #[.slice A2 (n + 1) c2, .agg #[.int .i64 0, .int .i64 0]]) (by simp only [results, Tryd.results8]; go_simp) rfl ?_
          rw [HX.out]
          refine ⟨A2, n + 1, c2, rfl, ?_, by rw [HBE.out]; exact (HS5.out.2.2.2.setCell (p := ⟨b, 0, none⟩) (Nat.le_refl _) _).setCell (p := ⟨b, 1, none⟩) (Nat.le_refl _) _⟩
          rw [HBE.out]
          exact own_more (own_far (own_far HS5.out.1 (p := ⟨b, 0, none⟩) (Nat.lt_succ_self b) _) (p := ⟨b, 1, none⟩) (Nat.lt_succ_self b) _) (Nat.le_succ b)
        · have hw0 : 0 < n' := by have := HN'.out; have := List.length_pos_iff.2 hw; omega
          have kw0 : (0 : Int) < (n' : Int) := by omega
          have HX : Hid (R = ([], 50, p.length)) := hide (by rw [HR2.out, if_neg hw])
          have HP3 := hide HS.out.2.2.1
          have HB3 := hide HS.out.2.2.2
          clear HR2 hw HN'
          go_wp2_with fail
          refine (XB50.out _ p.length (by omega)).mono ?_
          rintro e w9 ⟨rfl, hb9⟩
          have hp9 := HP3.out.below hb9 HP3.out.lt
          obtain ⟨x0, x1, y0, y1⟩ := hp9.two
          have hz9 := hp9.lt
          have HB9 : Hid (Below b w w9) := hide (HB3.out.trans (hb9.mono (Nat.le_of_lt HP3.out.lt)))
          clear hb9 hp9
          go_wp2_with fail
          refine bodyPost_ret (v := .tuple #[.slice none 0 0, .agg #[.int .i64 50, .int .i64 (p.length : Int)]]) (by simp only [results, Tryd.results8]; go_simp) rfl ?_
          rw [HX.out]
          exact ⟨none, 0, 0, rfl, World.ownsRow_nil _ _ _ _, by rw [HBE.out]; exact ((HB9.out.setCell (p := ⟨b, 0, none⟩) (Nat.le_refl _) _).setCell (p := ⟨b, 1, none⟩) (Nat.le_refl _) _)⟩
end Go.Proofs.YtpfcfcbljkdkhaaDoor
