/- The contracts of plain, quoted and gap. -/
import Derived.Test.YtnongbbhpkmdjaaFldC
namespace Go.Proofs.Ytnongbbhpkmdjaa
open Go.RowKit
set_option linter.unusedVariables false
variable {X : Option (Nat × Array Value)}
theorem strCells_bv (t : LB) : Lib.strCells ⟨t.toArray⟩ = bv t := by simp [Lib.strCells, bv]
theorem enter_text (s : CS) : s.enter.text = s.text ∧ s.enter.counted = s.counted := by unfold CS.enter; split <;> exact ⟨rfl, rfl⟩
theorem plain_some (s : CS) (t : LB) (h : t ≠ []) : s.plain t = { s.enter with text := s.enter.text ++ t, counted := s.enter.counted + t.length } := by
  unfold CS.plain; rw [if_neg h, (enter_text s).1, (enter_text s).2]
theorem plain_none (s : CS) : s.plain [] = s := by unfold CS.plain; rw [if_pos rfl]
theorem quote_eq (s : CS) (t : LB) : s.quote t = { s.enter.flush with pieces := s.enter.flush.pieces ++ [(t, true)], counted := s.enter.flush.counted + t.length } := by
  unfold CS.quote
  have : s.enter.flush.counted = s.counted := (enter_text s).2
  rw [this]
set_option maxRecDepth 100000 in
set_option maxHeartbeats 8000000 in
theorem plain_any (B g : Nat) (ifs t : LB) (s : CS) (w : World) (hK : s.Le 900000) (ht : t.length ≤ 50000) (hB : B ≤ w.heap.size) (H : SAt B w g ifs X s) :
    Calls Try.prog 27 #[.pointer (some ⟨g, 0, none⟩), .string ⟨t.toArray⟩] w fun e w' => e = .returned (.tuple #[]) ∧ SAt B w' g ifs X (s.plain t) ∧ Below B w w' := by
  have HX := hide (enter_any B g ifs s w (hK.up (by omega)) hB H)
  have HK1 := hide (Le.enter hK)
  by_cases h0 : t = []
  · subst h0
    have HE := hide (plain_none s)
    have HH := hide H
    clear H
    go_enter Try.func27, Try.ntmps27
    go_wp2_with fail
    refine bodyPost_ret (results_none rfl _ _ _) rfl ?_
    refine ⟨rfl, ?_, Below.refl _ _⟩
    rw [HE.out]; exact HH.out
  · have HE := hide (plain_some s t h0)
    have hk1 : (t == []) = false := beq_eq_false_iff_ne.2 h0
    have HN := hide h0
    obtain ⟨i0, hi, hz0, hz1, hz2⟩ := info_parts infoU8
    have hstr := strCells_bv t
    have HSTR := hide hstr
    clear H h0 hstr
    obtain ⟨s1, hs1⟩ : ∃ s1, s.enter = s1 := ⟨_, rfl⟩
    rw [hs1] at HX HK1 HE
    clear hs1
    go_enter Try.func27, Try.ntmps27
    go_wp2_with fail
    refine HX.out.mono ?_
    rintro e w1 ⟨rfl, ⟨h1, hS⟩, hb1⟩
    have HS1 := hide hS
    have HB1 := hide hb1
    have hBW : B ≤ w1.heap.size := by have := hb1.size; omega
    have hBg := hS.hg
    clear hS hb1 HX
    have hgl := HS1.out.lt
    obtain ⟨⟨c0, c1, c2, c3, c4, c5, c6, c7⟩, f0, f1, f2, f3, f4, f5, f6, f7⟩ := HS1.out.blk.eight
    have hnt : h1.nt ≤ 900001 := by have := HS1.out.to.len; have := HK1.out.2.2.2.1; omega
    have hcc : s1.counted ≤ 900001 := HK1.out.2.2.2.2
    have HO := hide HS1.out.to
    go_wp2_with (at_builtin; (refine Lib.wpList_append_own_string _ rfl (.tmp 12) (.tmp 13) 41 9 rfl B 5 i0 Try.underlying41 Try.underlying9 hi hz0 hz1 hz2 (.slice h1.T h1.nt h1.ct) h1.nt (bv s1.text) rfl (by exact HO.out) ⟨t.toArray⟩ rfl ?c1 ?c2 ?c3 ?_))
    case c1 => show h1.nt + t.length ≤ maxLen; unfold maxLen; omega
    case c2 => show h1.nt + t.length ≤ 140737488355328; omega
    case c3 => exact hBW
    intro v1 W2 hown2 hg2 hat2
    rw [HSTR.out] at hown2
    obtain ⟨A2, x2, rfl, hbk, hfin⟩ := HS1.out.growT hown2 hg2
    have HF := hide hfin
    have hgl2 := hbk.lt
    have hbd := hbk
    obtain ⟨⟨d0, d1, d2, d3, d4, d5, d6, d7⟩, e0, e1, e2, e3, e4, e5, e6, e7⟩ := hbk.eight
    have HB2 := hide (below_grow0 HB1.out hBW HS1.out.to hg2)
    clear hown2 hg2 hat2 hfin hbk hbd c0 c1 c2 c3 c4 c5 c6 c7 f0 f1 f2 f3 f4 f5 f6 f7 HO HB1 HS1 hgl
    have HF4 := hide (HF.out.setCounted (s1.counted + t.length))
    go_wp2
    go_end0
    refine ⟨rfl, ?_, (HB2.out.setCell (p := ⟨g, 4, none⟩) hBg _).setCell (p := ⟨g, 7, none⟩) hBg _⟩
    rw [HE.out]
    have := HF4.out
    exact ⟨_, this⟩
set_option maxRecDepth 100000 in
set_option maxHeartbeats 8000000 in
theorem quoted_any (B g : Nat) (ifs t : LB) (s : CS) (w : World) (hK : s.Le 900000) (ht : t.length ≤ 50000) (hB : B ≤ w.heap.size) (H : SAt B w g ifs X s) :
    Calls Try.prog 25 #[.pointer (some ⟨g, 0, none⟩), .string ⟨t.toArray⟩] w fun e w' => e = .returned (.tuple #[]) ∧ SAt B w' g ifs X (s.quote t) ∧ Below B w w' := by
  have HX := hide (enter_any B g ifs s w (hK.up (by omega)) hB H)
  have hE := quote_eq s t
  have HK1 := hide (Le.enter hK)
  obtain ⟨i0, hi, hz0, hz1, hz2⟩ := info_parts infoPc
  clear H
  obtain ⟨s1, hs1⟩ : ∃ s1, s.enter = s1 := ⟨_, rfl⟩
  rw [hs1] at HX HK1 hE
  clear hs1
  have HK2 := hide (Le.flush HK1.out)
  have XF := hide (fun W hB h => flush_any (X := X) B g ifs s1 W (HK1.out.up (by omega)) hB h)
  obtain ⟨s2, hs2⟩ : ∃ s2, s1.flush = s2 := ⟨_, rfl⟩
  rw [hs2] at XF HK2 hE
  have HE := hide hE
  clear hs2 hE
  go_enter Try.func25, Try.ntmps25
  go_wp2_with fail
  refine HX.out.mono ?_
  rintro e w1 ⟨rfl, hS, hb1⟩
  have hBW : B ≤ w1.heap.size := by have := hb1.size; omega
  have HS1 := hide hS
  have HB1 := hide hb1
  have XF1 := hide (XF.out w1 hBW hS)
  clear hS hb1 HX XF
  go_wp2_with fail
  refine XF1.out.mono ?_
  rintro e w2 ⟨rfl, ⟨h1, hS⟩, hb2⟩
  have HS2 := hide hS
  have HB2 : Hid (Below B w w2) := hide (HB1.out.trans hb2)
  have hBW2 : B ≤ w2.heap.size := by have := hb2.size; omega
  have hBg := hS.hg
  clear hS hb2 XF1 HS1 HB1
  have hgl := HS2.out.lt
  obtain ⟨⟨c0, c1, c2, c3, c4, c5, c6, c7⟩, f0, f1, f2, f3, f4, f5, f6, f7⟩ := HS2.out.blk.eight
  have hnp : h1.np ≤ 900002 := by have := HS2.out.po.len; have := HK2.out.2.2.1; omega
  have hcc : s2.counted ≤ 900002 := HK2.out.2.2.2.2
  have HO := hide (World.ownsRow.alloc HS2.out.po (.cells #[.string ⟨t.toArray⟩, .bool true, .bool false, .bool false] 35))
  have HR := hide (one_pc w2 (t, true))
  go_wp2_with (at_builtin; (refine wpList_append_any _ rfl (.tmp 12) (.tmp 15) 22 rfl B 35 i0 _ 4 24 Try.underlying22 hi hz0 hz1 hz2 rfl (by omega) (.slice h1.P h1.np h1.cp) h1.np (pvs (up s2.pieces)) rfl (by exact HO.out) (w2.heap.size + 1) (some ⟨w2.heap.size, 0, none⟩) 1 1 (pvs (up [(t, true)])) rfl (by exact HR.out) (pvs_one _) ?c1 ?c2 ?c3 ?_))
  case c1 => unfold maxLen; omega
  case c2 => omega
  case c3 => simp; omega
  intro v1 W2 hown2 hg2 hat2
  obtain ⟨A2, x2, rfl, hbk, hfin⟩ := (HS2.out.alloc (.cells #[.string ⟨t.toArray⟩, .bool true, .bool false, .bool false] 35)).growP (p := (t, true)) hown2 hg2 (by simpa using hat2)
  have HF := hide hfin
  have hgl2 := hbk.lt
  obtain ⟨⟨d0, d1, d2, d3, d4, d5, d6, d7⟩, e0, e1, e2, e3, e4, e5, e6, e7⟩ := hbk.eight
  have HB3 := hide (below_grow HB2.out hBW2 HS2.out.po hg2)
  clear hown2 hg2 hat2 hfin hbk c0 c1 c2 c3 c4 c5 c6 c7 f0 f1 f2 f3 f4 f5 f6 f7 HO HR HB2 HS2 hgl
  have HF4 := hide (HF.out.setCounted (s2.counted + t.length))
  go_wp2
  go_end0
  refine ⟨rfl, ?_, (HB3.out.setCell (p := ⟨g, 3, none⟩) hBg _).setCell (p := ⟨g, 7, none⟩) hBg _⟩
  rw [HE.out]
  have := HF4.out
  exact ⟨_, this⟩
theorem gap_in (s : CS) (f : Bool) (h : (!s.op && !f) = true) : s.gap f = { s.enter.close with closed := false } := by unfold CS.gap; rw [if_pos h]
theorem gap_out (s : CS) (f : Bool) (h : (!s.op && !f) = false) : s.gap f = { s.close with closed := false } := by unfold CS.gap; rw [if_neg (by rw [h]; decide)]
set_option maxRecDepth 100000 in
set_option maxHeartbeats 8000000 in
theorem gap_any (B g : Nat) (ifs : LB) (f : Bool) (s : CS) (w : World) (hK : s.Le 900000) (hB : B ≤ w.heap.size) (H : SAt B w g ifs X s) :
    Calls Try.prog 24 #[.pointer (some ⟨g, 0, none⟩), .bool f] w fun e w' => e = .returned (.tuple #[]) ∧ SAt B w' g ifs X (s.gap f) ∧ Below B w w' := by
  have XE := hide (enter_any B g ifs s w (hK.up (by omega)) hB H)
  have HK1 := hide (Le.enter hK)
  have HH := hide H
  obtain ⟨h, H⟩ := H
  have hgl := H.lt
  have hBg := H.hg
  obtain ⟨⟨c0, c1, c2, c3, c4, c5, c6, c7⟩, f0, f1, f2, f3, f4, f5, f6, f7⟩ := H.blk.eight
  clear H
  have fin : ∀ (s2 : CS) (wa wb : World), SAt B wa g ifs X s2 → wb = wa.setCell ⟨g, 6, none⟩ (.bool false) → SAt B wb g ifs X { s2 with closed := false } := by
    rintro s2 wa wb ⟨h, H⟩ rfl
    exact ⟨h, H.setClosed false⟩
  have FIN := hide fin
  clear fin
  cases hc : (!s.op && !f) with
  | true =>
    have HE := hide (gap_in s f hc)
    simp only [Bool.and_eq_true, Bool.not_eq_true'] at hc
    obtain ⟨hc1, hc2⟩ := hc
    rw [hc1] at c5
    subst hc2
    obtain ⟨s1, hs1⟩ : ∃ s1, s.enter = s1 := ⟨_, rfl⟩
    rw [hs1] at XE HK1 HE
    have XC := hide (fun W hB h => close_any (X := X) B g ifs s1 W (HK1.out.up (by omega)) hB h)
    clear hs1 hc1 HH
    go_enter Try.func24, Try.ntmps24
    go_wp2_with fail
    refine XE.out.mono ?_
    rintro e w1 ⟨rfl, hS, hb1⟩
    have hBW : B ≤ w1.heap.size := by have := hb1.size; omega
    have HB1 := hide hb1
    have XF1 := hide (XC.out w1 hBW hS)
    clear hS hb1 XE XC c0 c1 c2 c3 c4 c5 c6 c7 f0 f1 f2 f3 f4 f5 f6 f7
    go_wp2_with fail
    refine XF1.out.mono ?_
    rintro e w2 ⟨rfl, hS, hb2⟩
    have HS2 := hide hS
    have HB2 : Hid (Below B w w2) := hide (HB1.out.trans hb2)
    obtain ⟨h1, hS⟩ := hS
    have hgl2 := hS.lt
    obtain ⟨⟨c0, c1, c2, c3, c4, c5, c6, c7⟩, f0, f1, f2, f3, f4, f5, f6, f7⟩ := hS.blk.eight
    clear hS hb2 XF1 HB1 hgl
    go_wp2
    go_end0
    refine ⟨rfl, ?_, HB2.out.setCell (p := ⟨g, 6, none⟩) hBg _⟩
    rw [HE.out]
    exact FIN.out _ _ _ HS2.out rfl
  | false =>
    have HE := hide (gap_out s f hc)
    have XC := hide (close_any B g ifs s w (hK.up (by omega)) hB HH.out)
    obtain ⟨o, ho⟩ : ∃ o, s.op = o := ⟨_, rfl⟩
    rw [ho] at c5 hc
    clear ho HH XE HK1
    have key : Calls Try.prog 24 #[.pointer (some ⟨g, 0, none⟩), .bool f] w fun e w' => e = .returned (.tuple #[]) ∧ SAt B w' g ifs X { s.close with closed := false } ∧ Below B w w' := by
      have step : ∀ W, SAt B W g ifs X s.close → Hid (∃ h, SS B W g ifs X s.close h) := fun W h => hide h
      obtain ⟨s2, hs2⟩ : ∃ s2, s.close = s2 := ⟨_, rfl⟩
      rw [hs2] at XC ⊢
      clear step HE hs2
      cases o with
      | true =>
        clear hc
        go_enter Try.func24, Try.ntmps24
        go_wp2_with fail
        refine XC.out.mono ?_
        rintro e w2 ⟨rfl, hS, hb2⟩
        have HS2 := hide hS
        have HB2 := hide hb2
        obtain ⟨h1, hS⟩ := hS
        have hgl2 := hS.lt
        clear c0 c1 c2 c3 c4 c5 c6 c7 f0 f1 f2 f3 f4 f5 f6 f7
        obtain ⟨⟨c0, c1, c2, c3, c4, c5, c6, c7⟩, f0, f1, f2, f3, f4, f5, f6, f7⟩ := hS.blk.eight
        clear hS hb2 XC hgl
        go_wp2
        go_end0
        exact ⟨rfl, FIN.out _ _ _ HS2.out rfl, HB2.out.setCell (p := ⟨g, 6, none⟩) hBg _⟩
      | false =>
        have hf : f = true := by simpa using hc
        subst hf
        clear hc
        go_enter Try.func24, Try.ntmps24
        go_wp2_with fail
        refine XC.out.mono ?_
        rintro e w2 ⟨rfl, hS, hb2⟩
        have HS2 := hide hS
        have HB2 := hide hb2
        obtain ⟨h1, hS⟩ := hS
        have hgl2 := hS.lt
        clear c0 c1 c2 c3 c4 c5 c6 c7 f0 f1 f2 f3 f4 f5 f6 f7
        obtain ⟨⟨c0, c1, c2, c3, c4, c5, c6, c7⟩, f0, f1, f2, f3, f4, f5, f6, f7⟩ := hS.blk.eight
        clear hS hb2 XC hgl
        go_wp2
        go_end0
        exact ⟨rfl, FIN.out _ _ _ HS2.out rfl, HB2.out.setCell (p := ⟨g, 6, none⟩) hBg _⟩
    rw [HE.out]
    exact key
end Go.Proofs.Ytnongbbhpkmdjaa
