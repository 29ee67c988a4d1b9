/- The contract of soft. -/
import Derived.Test.YtnongbbhpkmdjaaFldD
import Derived.Deep.RegionHeld3
namespace Go.Proofs.Ytnongbbhpkmdjaa
open Go.RowKit
set_option linter.unusedVariables false
variable {X : Option (Nat × Array Value)}
theorem ext_two (l : LB) (i j : Nat) : (⟨l.toArray⟩ : ByteArray).extract i j = ⟨((l.drop i).take (j - i)).toArray⟩ := by
  apply ByteArray.ext
  apply Array.toList_inj.1
  simp
theorem ext_from (l : LB) (i : Nat) : (⟨l.toArray⟩ : ByteArray).extract i l.length = ⟨(l.drop i).toArray⟩ := by
  rw [ext_two, List.take_of_length_le (by simp)]
theorem sl_two (p : LB) (a b : Nat) (i j : Int) (hi : i = (a : Int)) (hj : j = (b : Int)) (hab : a ≤ b) (hb : b ≤ p.length) : ∀ W, (Instr.slice 9 (.string ⟨p.toArray⟩) (some (.int .i64 i)) (some (.int .i64 j)) none).run Try.prog W = .ok (.string ⟨((p.drop a).take (b - a)).toArray⟩) W := fun W => by
  subst hi hj
  rw [run_slice_string W 9 ⟨p.toArray⟩ .i64 .i64 (a : Int) (b : Int) Try.underlying9 (by omega) (by omega) (by show (b : Int) ≤ ((p.length : Nat) : Int); omega), Int.toNat_natCast, Int.toNat_natCast, ext_two]
theorem byte_1 (s : CS) (ifs : LB) (c : UInt8) (h : kindP ifs c = 1) : s.byte ifs c = { { s with closed := s.closed || s.op }.close with counted := { s with closed := s.closed || s.op }.close.counted + 1 } := by
  unfold CS.byte; rw [h]
  have : { s with closed := s.closed || s.op }.close.counted = s.counted := by unfold CS.close; split <;> rfl
  rw [this]
  rfl
theorem close_counted (s : CS) : s.close.counted = s.counted := by unfold CS.close; split <;> rfl
theorem byte_2a (s : CS) (ifs : LB) (c : UInt8) (h : kindP ifs c = 2) (h2 : (!s.op && !s.closed) = true) : s.byte ifs c = { s.enter.close with closed := false, counted := s.enter.close.counted + 1 } := by
  unfold CS.byte; rw [h]
  have : s.enter.close.counted = s.counted := (close_counted _).trans (enter_text s).2
  rw [this]
  simp only [h2, if_true]
theorem byte_2b (s : CS) (ifs : LB) (c : UInt8) (h : kindP ifs c = 2) (h2 : (!s.op && !s.closed) = false) : s.byte ifs c = { s.close with closed := false, counted := s.close.counted + 1 } := by
  unfold CS.byte; rw [h, close_counted]
  simp only [h2, Bool.false_eq_true, if_false]
theorem byte_0 (s : CS) (ifs : LB) (c : UInt8) (h : kindP ifs c = 0) : s.byte ifs c = s.plain [c] := by
  unfold CS.byte; rw [h]; rfl
theorem soft_snoc (ifs : LB) (t : LB) (s : CS) (c : UInt8) : softC ifs (t ++ [c]) s = (softC ifs t s).byte ifs c := by simp [softC, List.foldl_append]
theorem SAt.setClosed {B g : Nat} {W : World} {ifs : LB} {s : CS} (H : SAt B W g ifs X s) (b : Bool) : SAt B (W.setCell ⟨g, 6, none⟩ (.bool b)) g ifs X { s with closed := b } := by
  obtain ⟨h, H⟩ := H; exact ⟨h, H.setClosed b⟩
theorem SAt.setCounted {B g : Nat} {W : World} {ifs : LB} {s : CS} (H : SAt B W g ifs X s) (n : Nat) : SAt B (W.setCell ⟨g, 7, none⟩ (.int .i64 (n : Int))) g ifs X { s with counted := n } := by
  obtain ⟨h, H⟩ := H; exact ⟨h, H.setCounted n⟩
theorem SAt.drewN {B g : Nat} {W : World} {ifs : LB} {s : CS} (H : SAt B W g ifs X s) (n : Nat) : SAt B (W.drewN n) g ifs X s := by
  obtain ⟨h, H⟩ := H; exact ⟨h, H.drewN n⟩
theorem SAt.below {B g : Nat} {w w' : World} {ifs : LB} {s : CS} (H : SAt B w g ifs X s) (hb : Below w.heap.size w w') : SAt B w' g ifs X s := by
  obtain ⟨h, H⟩ := H; exact ⟨h, H.below hb⟩
theorem below_drewN {B : Nat} {a w : World} (h : Below B a w) : ∀ n, Below B a (w.drewN n) := fun n => ⟨h.os, h.tape, h.output, h.size, h.block⟩
theorem soft_le {ifs t : LB} {s : CS} (k : Nat) (hK : s.Le 800000) (ht : t.length ≤ 20000) : (softC ifs (t.take k) s).Le 850000 := (Le.soft ifs (t.take k) hK).up (by have := List.length_take_le k t; have := List.length_take_le' k t; omega)
set_option maxRecDepth 100000 in
set_option maxHeartbeats 16000000 in
theorem soft_any (B g : Nat) (ifs t : LB) (s : CS) (w : World) (hK : s.Le 800000) (ht : t.length ≤ 20000) (hB : B ≤ w.heap.size) (H : SAt B w g ifs X s) :
    Calls Try.prog 26 #[.pointer (some ⟨g, 0, none⟩), .string ⟨t.toArray⟩] w fun e w' => e = .returned (.tuple #[]) ∧ SAt B w' g ifs X (softC ifs t s) ∧ Below B w w' := by
  have HK := hide hK
  have HH := hide H
  clear H hK
  go_enter Try.func26, Try.ntmps26
  go_wp2_with fail
  go_step3
  go_wp2_with fail
  go_step3
  go_wp2_with fail
  go_loopw [7] (fun u7 wx => ∃ k : Nat, k ≤ t.length ∧ u7 = .int .i64 (k : Int) ∧ Hid (SAt B wx g ifs X (softC ifs (t.take k) s)) ∧ Hid (Below B w wx)) (fun u7 _ => t.length - (intOf u7).toNat)
  case atStart => exact ⟨0, Nat.zero_le _, rfl, hide (by simpa [softC] using HH.out), hide (Below.refl _ _)⟩
  case round =>
    clear HH
    obtain ⟨k, hk, rfl, HS, HB⟩ := hrel
    have hBw : B ≤ wr.heap.size := by have := HB.out.size; omega
    by_cases hlt : k < t.length
    · obtain ⟨c, hc⟩ : ∃ c, t[k]? = some c := ⟨_, List.getElem?_eq_getElem hlt⟩
      have hix := ix_l t k c hc
      have hts : t.take (k + 1) = t.take k ++ [c] := by
        obtain ⟨h1, h2⟩ := List.getElem?_eq_some_iff.1 hc
        rw [List.take_succ_eq_append_getElem h1, h2]
      have HN : Hid (softC ifs (t.take (k + 1)) s = (softC ifs (t.take k) s).byte ifs c) := hide (by rw [hts, soft_snoc])
      have hL := soft_le (ifs := ifs) k HK.out ht
      have hsl := sl_two t k (k + 1) k ((k : Int) + 1) rfl (by omega) (by omega) (by omega)
      have h1e : (t.drop k).take (k + 1 - k) = [c] := by
        obtain ⟨h1, h2⟩ := List.getElem?_eq_some_iff.1 hc
        rw [Nat.add_sub_cancel_left, List.drop_eq_getElem_cons h1, h2]; rfl
      rw [h1e] at hsl
      have HSL := hide hsl
      have hk1 : (k : Int) < (t.length : Int) := by omega
      have hkw : IntKind.i64.wrap ((k : Int) + 1) = (k : Int) + 1 := by simp [IntKind.wrap, IntKind.bits, IntKind.signed]; omega
      have HKW := hide hkw
      clear hts hc h1e hsl hkw
      obtain ⟨s1, hs1⟩ : ∃ s1, softC ifs (t.take k) s = s1 := ⟨_, rfl⟩
      rw [hs1] at HS HN hL
      clear hs1
      have HL := hide hL
      clear hL
      obtain ⟨h, hS⟩ := HS.out
      have hlook := hS.km.look c
      obtain ⟨⟨c0, c1, c2, c3, c4, c5, c6, c7⟩, f0, f1, f2, f3, f4, f5, f6, f7⟩ := hS.blk.eight
      have hgl := hS.lt
      have hBg := hS.hg
      have hl2 : ∀ n, (Instr.lookup 38 (.map (some h.m)) (.int .u8 (c.toNat : Int)) false).run Try.prog (wr.drewN n) = .ok (.int .i64 (kindP ifs c : Int)) (wr.drewN n) := fun n => (hS.drewN n).km.look c
      clear hS
      rcases kind_le ifs c with hkd | hkd | hkd
      · replace HN := hide (HN.out.trans (byte_0 s1 ifs c hkd))
        rw [hkd] at hlook hl2
        have XP := hide (fun W hB h => plain_any (X := X) B g ifs [c] s1 W (HL.out.up (by omega)) (by simp) hB h)
        clear hkd
        go_wp2_with fail
        go_quiet (fail)
        clear c0 c1 c2 c3 c4 c5 c6 c7 f0 f1 f2 f3 f4 f5 f6 f7 hlook hl2
        have hs2 := HSL.out
        have hw2 := HKW.out
        go_wp2_with fail
        refine (XP.out (wr.drewN nq) (by simpa using hBw) (HS.out.drewN nq)).mono ?_
        rintro e w1 ⟨rfl, hS1, hb1⟩
        have HS1 : Hid (SAt B w1 g ifs X (softC ifs (t.take (k + 1)) s)) := hide (by rw [HN.out]; exact hS1)
        have HB1 : Hid (Below B w w1) := hide ((below_drewN HB.out nq).trans hb1)
        clear hS1 hb1 XP HN HS HB HL hw2 hs2
        go_wp2_with fail
        go_roundw
        case rel => exact ⟨k + 1, by omega, by go_num, HS1, HB1⟩
        case measure => simp [intOf]; omega
      · replace HN := hide (HN.out.trans (byte_1 s1 ifs c hkd))
        rw [hkd] at hlook hl2
        have HK2 : Hid (CS.Le { s1 with closed := s1.closed || s1.op } 850000) := hide (Le.closed HL.out _)
        have XC := hide (fun W hB h => close_any (X := X) B g ifs { s1 with closed := s1.closed || s1.op } W (HK2.out.up (by omega)) hB h)
        have HSC := hide (fun n => (HS.out.drewN n).setClosed (s1.closed || s1.op))
        have HL3 := hide (Le.close HK2.out)
        obtain ⟨o, ho⟩ : ∃ o, s1.op = o := ⟨_, rfl⟩
        obtain ⟨cl, hcl⟩ : ∃ cl, s1.closed = cl := ⟨_, rfl⟩
        obtain ⟨b, hb⟩ : ∃ b, (s1.closed || s1.op) = b := ⟨_, rfl⟩
        have hb' : (cl || o) = b := by rw [← hb, ← ho, ← hcl]
        rw [hb] at HSC XC HN HL3
        obtain ⟨s2, hs2⟩ : ∃ s2, ({ s1 with closed := b } : CS) = s2 := ⟨_, rfl⟩
        rw [hs2] at HSC XC HN HL3
        obtain ⟨s3, hs3⟩ : ∃ s3, s2.close = s3 := ⟨_, rfl⟩
        rw [hs3] at XC HN HL3
        rw [ho] at c5
        rw [hcl] at c6
        clear hkd hs2 hs3 ho hcl hb HK2
        have rest : ∀ b', b' = b → Hid (∀ n, SAt B ((wr.drewN n).setCell ⟨g, 6, none⟩ (.bool b')) g ifs X s2) := fun b' e => hide (by rw [e]; exact HSC.out)
        have hcc := HL3.out.2.2.2.2
        cases o <;> cases cl
        all_goals
          have HSD := rest _ hb'
          simp only [Bool.or_false, Bool.or_true] at HSD
          clear rest hb' HSC
          go_wp2_with fail
          go_quiet (fail)
          clear hlook hl2
          go_wp2_with fail
          refine (XC.out _ (by simpa using hBw) (HSD.out nq)).mono ?_
          rintro e w1 ⟨rfl, hS1, hb1⟩
          have HS1 := hide hS1
          have HB1 : Hid (Below B w w1) := hide (((below_drewN HB.out nq).setCell (p := ⟨g, 6, none⟩) hBg _).trans hb1)
          obtain ⟨h1, hS1⟩ := hS1
          have hgl1 := hS1.lt
          clear c0 c1 c2 c3 c4 c5 c6 c7 f0 f1 f2 f3 f4 f5 f6 f7
          obtain ⟨⟨c0, c1, c2, c3, c4, c5, c6, c7⟩, f0, f1, f2, f3, f4, f5, f6, f7⟩ := hS1.blk.eight
          have HS4 : Hid (SAt B (w1.setCell ⟨g, 7, none⟩ (.int .i64 ((s3.counted : Int) + 1))) g ifs X (softC ifs (t.take (k + 1)) s)) := hide (by
            rw [HN.out]
            exact HS1.out.setCounted (s3.counted + 1))
          have HB4 : Hid (Below B w (w1.setCell ⟨g, 7, none⟩ (.int .i64 ((s3.counted : Int) + 1)))) := hide (HB1.out.setCell (p := ⟨g, 7, none⟩) hBg _)
          clear hS1 hb1 XC HN HS HB HL HSD hgl
          go_wp2_with fail
          go_roundw
          case rel => exact ⟨k + 1, by omega, by go_num, HS4, HB4⟩
          case measure => simp [intOf]; omega
      · rw [hkd] at hlook hl2
        have XE := hide (fun W hB h => enter_any (X := X) B g ifs s1 W (HL.out.up (by omega)) hB h)
        have HLE := hide (Le.enter HL.out)
        have XCE := hide (fun W hB h => close_any (X := X) B g ifs s1.enter W (HLE.out.up (by omega)) hB h)
        have XC := hide (fun W hB h => close_any (X := X) B g ifs s1 W (HL.out.up (by omega)) hB h)
        have HL3 := hide (Le.close HL.out)
        have HL4 := hide (Le.close HLE.out)
        have HNA := hide (fun h2 => HN.out.trans (byte_2a s1 ifs c hkd h2))
        have HNB := hide (fun h2 => HN.out.trans (byte_2b s1 ifs c hkd h2))
        have hc4 := HL4.out.2.2.2.2
        have hc3 := HL3.out.2.2.2.2
        obtain ⟨o, ho⟩ : ∃ o, s1.op = o := ⟨_, rfl⟩
        obtain ⟨cl, hcl⟩ : ∃ cl, s1.closed = cl := ⟨_, rfl⟩
        rw [ho, hcl] at HNA HNB
        rw [ho] at c5
        rw [hcl] at c6
        clear hkd ho hcl HN HL
        obtain ⟨s2, hs2⟩ : ∃ s2, s1.enter = s2 := ⟨_, rfl⟩
        rw [hs2] at XE XCE HNA HL4 hc4 HLE
        obtain ⟨s3, hs3⟩ : ∃ s3, s2.close = s3 := ⟨_, rfl⟩
        rw [hs3] at XCE HNA HL4 hc4
        obtain ⟨s4, hs4⟩ : ∃ s4, s1.close = s4 := ⟨_, rfl⟩
        rw [hs4] at XC HNB HL3 hc3
        clear hs2 hs3 hs4
        have fin : ∀ (s5 : CS) (w1 : World), SAt B w1 g ifs X s5 → softC ifs (t.take (k + 1)) s = { s5 with closed := false, counted := s5.counted + 1 } → Hid (SAt B ((w1.setCell ⟨g, 6, none⟩ (.bool false)).setCell ⟨g, 7, none⟩ (.int .i64 ((s5.counted : Int) + 1))) g ifs X (softC ifs (t.take (k + 1)) s)) := fun s5 w1 h e => hide (by
          rw [e]
          exact (h.setClosed false).setCounted (s5.counted + 1))
        have FIN := hide fin
        clear fin
        cases o <;> cases cl
        · have HN2 := hide (HNA.out rfl)
          clear HNA HNB XC HL3 hc3
          go_wp2_with fail
          go_quiet (fail)
          clear hlook hl2
          go_wp2_with fail
          refine (XE.out _ (by simpa using hBw) (HS.out.drewN nq)).mono ?_
          rintro e w1 ⟨rfl, hS1, hb1⟩
          have HS1 := hide hS1
          have HB1 : Hid (Below B w w1) := hide ((below_drewN HB.out nq).trans hb1)
          have hBw1 : B ≤ w1.heap.size := by have := HB1.out.size; omega
          have XC1 := hide (XCE.out w1 hBw1 hS1)
          clear hS1 hb1 XE XCE
          go_wp2_with fail
          refine XC1.out.mono ?_
          rintro e w2 ⟨rfl, hS1, hb1⟩
          have HS2 := hide hS1
          have HB2 : Hid (Below B w w2) := hide (HB1.out.trans hb1)
          obtain ⟨h1, hS1⟩ := hS1
          have hgl1 := hS1.lt
          clear c0 c1 c2 c3 c4 c5 c6 c7 f0 f1 f2 f3 f4 f5 f6 f7
          obtain ⟨⟨c0, c1, c2, c3, c4, c5, c6, c7⟩, f0, f1, f2, f3, f4, f5, f6, f7⟩ := hS1.blk.eight
          have HS4 := FIN.out s3 w2 HS2.out HN2.out
          have HB4 : Hid (Below B w ((w2.setCell ⟨g, 6, none⟩ (.bool false)).setCell ⟨g, 7, none⟩ (.int .i64 ((s3.counted : Int) + 1)))) := hide ((HB2.out.setCell (p := ⟨g, 6, none⟩) hBg _).setCell (p := ⟨g, 7, none⟩) hBg _)
          clear hS1 hb1 XC1 HN2 HS HB FIN hgl HS1 HB1 HS2 HB2
          go_wp2_with fail
          go_roundw
          case rel => exact ⟨k + 1, by omega, by go_num, HS4, HB4⟩
          case measure => simp [intOf]; omega
        all_goals
          have HN2 := hide (HNB.out rfl)
          clear HNA HNB XE XCE HL4 hc4
          go_wp2_with fail
          go_quiet (fail)
          clear hlook hl2
          go_wp2_with fail
          refine (XC.out _ (by simpa using hBw) (HS.out.drewN nq)).mono ?_
          rintro e w2 ⟨rfl, hS1, hb1⟩
          have HS2 := hide hS1
          have HB2 : Hid (Below B w w2) := hide ((below_drewN HB.out nq).trans hb1)
          obtain ⟨h1, hS1⟩ := hS1
          have hgl1 := hS1.lt
          clear c0 c1 c2 c3 c4 c5 c6 c7 f0 f1 f2 f3 f4 f5 f6 f7
          obtain ⟨⟨c0, c1, c2, c3, c4, c5, c6, c7⟩, f0, f1, f2, f3, f4, f5, f6, f7⟩ := hS1.blk.eight
          have HS4 := FIN.out s4 w2 HS2.out HN2.out
          have HB4 : Hid (Below B w ((w2.setCell ⟨g, 6, none⟩ (.bool false)).setCell ⟨g, 7, none⟩ (.int .i64 ((s4.counted : Int) + 1)))) := hide ((HB2.out.setCell (p := ⟨g, 6, none⟩) hBg _).setCell (p := ⟨g, 7, none⟩) hBg _)
          clear hS1 hb1 HN2 HS HB FIN hgl HS2 HB2
          go_wp2_with fail
          go_roundw
          case rel => exact ⟨k + 1, by omega, by go_num, HS4, HB4⟩
          case measure => simp [intOf]; omega
    · have hk1 : ¬ (k : Int) < (t.length : Int) := by omega
      have HE : Hid (SAt B wr g ifs X (softC ifs t s)) := hide (by have := HS.out; rwa [List.take_of_length_le (by omega)] at this)
      clear HS
      go_wp2_with fail
      go_end0
      exact ⟨rfl, HE.out, HB.out⟩
end Go.Proofs.Ytnongbbhpkmdjaa
