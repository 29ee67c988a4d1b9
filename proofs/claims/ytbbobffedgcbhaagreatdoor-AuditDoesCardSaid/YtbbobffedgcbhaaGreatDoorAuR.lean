/- audit.Recover at a log. -/
import Derived.Test.YtbbobffedgcbhaaGreatDoorAuO
namespace Go.Proofs.YtbbobffedgcbhaaGreatDoor
open Go.RowKit
set_option linter.unusedVariables false
set_option maxRecDepth 100000 in
set_option maxHeartbeats 16000000 in
theorem arecover_ok (L : Lg) (keep : Int) (A : Option Addr) (n c : Nat) (B : Option Addr) (m k : Nat) (H : Option Addr) (hn hc : Nat) (w : World) (hI : LogIn w L A n c B m k H hn hc) (hsum : L.s.length + L.p.length ≤ 9000) (hok : okL L = true) (hS : Std w) (hT : Tabs w) :
    Calls Tryz.prog 10 #[lv L A n c B m k H hn hc, .int .i64 keep] w (OpenEnd (L.s ++ L.p.take (Dk.kpN L.p.length keep)) L.room (-1) w) := by
  have hok1 := (okL_split hok).1
  have hls := hI.rs.len
  have hlp := hI.rp.len
  have XC := hide (fun W (hW : Below w.heap.size w W) => acheck_any L A n c B m k H hn hc W (hI.below hW) (hS.below hW) (hT.below hW))
  rw [hok] at XC
  have XR := hide (fun W (hW : Below w.heap.size w W) => Dk.crash_any A c B k L.room L.dead L.arm keep L.s L.p W (by rw [hls]; exact rb hI.rs hW) (by rw [hlp]; exact rb hI.rp hW) (by have := hI.sn; omega) (by have := hI.sm; omega) (by rw [hlp]; exact hI.lp))
  rw [hok1] at XR
  obtain ⟨s, p, room, dead, arm, seq, hash, stop⟩ := L
  dsimp only at *
  have hcs : Dk.crS s p true keep = s ++ p.take (Dk.kpN p.length keep) := if_pos rfl
  have hcp : Dk.crP p true = [] := if_pos rfl
  have hcd : Dk.crD dead true = false := if_pos rfl
  have hca : Dk.crA arm true = -1 := if_pos rfl
  rw [hcs, hcp, hcd, hca] at XR
  obtain ⟨S, hSS⟩ : ∃ S, s ++ p.take (Dk.kpN p.length keep) = S := ⟨_, rfl⟩
  rw [hSS] at XR ⊢
  have hSl : S.length ≤ s.length + p.length := by
    rw [← hSS, List.length_append, List.length_take]; omega
  have hokS : ∀ z : Nat, z = S.length → Dk.okD z 0 room (-1) = true := by
    intro z hz
    unfold Dk.okD at hok1 ⊢
    rw [decide_eq_true_eq] at hok1 ⊢
    omega
  have XO := hide (fun W (hW : Below w.heap.size w W) (A4 : Option Addr) (n4 c4 : Nat) (B4 : Option Addr) (k4 : Nat) (h1 : Rd W A4 n4 S) (h2 : n4 ≤ c4) (h3 : Rd W B4 0 []) => aopen_ok S [] room (-1) A4 n4 c4 B4 0 k4 W h1 h2 h3 (Nat.zero_le _) rfl (by have := h1.len; omega) (hokS n4 h1.len.symm) (hS.below hW) (hT.below hW))
  unfold OpenEnd at XO
  have HOPL := hide (show opP S room (-1) = ⟨S.take (scanB S).2.2, [], room, false, -1, ((scanB S).1.length : Int), (scanB S).2.1, false⟩ from rfl)
  obtain ⟨OPL, hOPL⟩ : ∃ o, opP S room (-1) = o := ⟨_, rfl⟩
  have HEND : Hid (∀ e W, (∃ A n c B m k H hc O co l, e = .returned (.tuple #[lv OPL A n c B m k H 32 hc, .slice O l.length co, .int .i64 0]) ∧ LogIn W OPL A n c B m k H 32 hc ∧ OutR w.heap.size W O l.length co l ∧ l.map RV.r = (scanB S).1 ∧ Below w.heap.size w W) → OpenEnd S room (-1) w e W) := hide (fun e W h => by
    unfold OpenEnd
    rw [hOPL]
    exact h)
  rw [hOPL] at XO HOPL
  generalize OpenEnd S room (-1) w = POST at *
  obtain ⟨sq, hsq⟩ : ∃ x, ((scanB S).1.length : Int) = x := ⟨_, rfl⟩
  rw [hsq] at HOPL
  unfold Dk.DRet at XR
  rw [hls, hlp] at XR
  have hb2 : Below w.heap.size w ((w.alloc (.cells #[.slice A n c, .slice B m k, .int .i64 room, .bool dead, .int .i64 arm, .int .i64 seq, .slice H hn hc, .bool stop] 26)).alloc (.cells #[.slice none 0 0, .slice none 0 0, .int .i64 0, .bool false, .int .i64 0, .int .i64 0, .slice none 0 0, .bool false] 26)) := (bl_alloc w _).alloc (by simp) _
  have HK := hide (show Blk ((w.alloc (.cells #[.slice A n c, .slice B m k, .int .i64 room, .bool dead, .int .i64 arm, .int .i64 seq, .slice H hn hc, .bool stop] 26)).alloc (.cells #[.slice none 0 0, .slice none 0 0, .int .i64 0, .bool false, .int .i64 0, .int .i64 0, .slice none 0 0, .bool false] 26)) w.heap.size 26 #[.slice A n c, .slice B m k, .int .i64 room, .bool dead, .int .i64 arm, .int .i64 seq, .slice H hn hc, .bool stop] from (Blk.new w 26 _).below (bl_alloc _ _) (by simp))
  have HZ : Hid (Blk ((w.alloc (.cells #[.slice A n c, .slice B m k, .int .i64 room, .bool dead, .int .i64 arm, .int .i64 seq, .slice H hn hc, .bool stop] 26)).alloc (.cells #[.slice none 0 0, .slice none 0 0, .int .i64 0, .bool false, .int .i64 0, .int .i64 0, .slice none 0 0, .bool false] 26)) (w.heap.size + 1) 26 #[.slice none 0 0, .slice none 0 0, .int .i64 0, .bool false, .int .i64 0, .int .i64 0, .slice none 0 0, .bool false]) := hide (by
    have h := Blk.new (w.alloc (.cells #[.slice A n c, .slice B m k, .int .i64 room, .bool dead, .int .i64 arm, .int .i64 seq, .slice H hn hc, .bool stop] 26)) 26 #[.slice none 0 0, .slice none 0 0, .int .i64 0, .bool false, .int .i64 0, .int .i64 0, .slice none 0 0, .bool false]
    simpa using h)
  have HB := hide hb2
  clear hb2 hls hlp hI hsum hok hS hT hok1 hcs hcp hcd hca hSS hSl hokS hOPL hsq
  unfold lv Dk.dv at *
  dsimp only at *
  go_enter Tryz.func10, Tryz.ntmps10
  go_wp2_with fail
  refine (XC.out _ HB.out).mono ?_
  rintro e1 w1 ⟨rfl, u1⟩
  have HB1 := hide (below_more HB.out (Nat.le_refl _) u1)
  have HK1 := hide (HK.out.below u1 HK.out.lt)
  have HZ1 := hide (HZ.out.below u1 HZ.out.lt)
  have XR1 := hide (XR.out w1 HB1.out)
  clear u1 XC XR HB HK HZ
  obtain ⟨x0, x1, x2, x3, x4, x5, x6, x7⟩ := HK1.out.eight
  have xl := HK1.out.lt
  go_wp2_with fail
  refine XR1.out.mono ?_
  rintro e2 w2 ⟨A2, n2, c2, B2, m2, k2, rfl, u1, u2, u3⟩
  have hm2 : m2 = 0 := by have := u2.rd.len; simpa using this.symm
  subst hm2
  have HB2 := hide (below_more HB1.out (Nat.le_refl _) u3)
  have HZ2 := hide (HZ1.out.below u3 HZ1.out.lt)
  have XO2 := hide (XO.out w2 HB2.out A2 n2 c2 B2 k2 u1.rd u1.caps.1 u2.rd)
  clear u1 u2 u3 XR1 XO x0 x1 x2 x3 x4 x5 x6 x7 xl HK1 HZ1
  go_wp2_with fail
  refine XO2.out.mono ?_
  rintro e3 w3 ⟨A4, n4, c4, B4, m4, k4, D, dn, O, co, l, rfl, g1, g2, g3, g4⟩
  have HB3 := hide (below_more HB2.out (Nat.le_refl _) g4)
  have HZ3 := hide (HZ2.out.below g4 HZ2.out.lt)
  have HL3 := hide g1
  have HO3 := hide g2
  have HM3 := hide g3
  rw [HOPL.out]
  dsimp only
  obtain ⟨q, hq⟩ : ∃ q, l.length = q := ⟨_, rfl⟩
  have HQ := hide hq
  rw [hq] at HO3 ⊢
  clear g1 g2 g3 g4 XO2 HZ2 hq
  obtain ⟨u0, u1, u2, u3, u4, u5, u6, u7⟩ := HZ3.out.eight
  have uz0 := HZ3.out.frozen 0
  have uz1 := HZ3.out.frozen 1
  have uz2 := HZ3.out.frozen 2
  have uz3 := HZ3.out.frozen 3
  have uz4 := HZ3.out.frozen 4
  have uz5 := HZ3.out.frozen 5
  have uz6 := HZ3.out.frozen 6
  have uz7 := HZ3.out.frozen 7
  have ul := HZ3.out.lt
  obtain ⟨WE, hWE⟩ : ∃ W, ((((((((w3.setCell ⟨w.heap.size + 1, 0, none⟩ (.slice A4 n4 c4)).setCell ⟨w.heap.size + 1, 1, none⟩ (.slice B4 m4 k4)).setCell ⟨w.heap.size + 1, 2, none⟩ (.int .i64 room)).setCell ⟨w.heap.size + 1, 3, none⟩ (.bool false)).setCell ⟨w.heap.size + 1, 4, none⟩ (.int .i64 (-1))).setCell ⟨w.heap.size + 1, 5, none⟩ (.int .i64 sq)).setCell ⟨w.heap.size + 1, 6, none⟩ (.slice D 32 dn)).setCell ⟨w.heap.size + 1, 7, none⟩ (.bool false)) = W := ⟨_, rfl⟩
  have hBE0 : Below w.heap.size w (((((((((w3.setCell ⟨w.heap.size + 1, 0, none⟩ (.slice A4 n4 c4)).setCell ⟨w.heap.size + 1, 1, none⟩ (.slice B4 m4 k4)).setCell ⟨w.heap.size + 1, 2, none⟩ (.int .i64 room)).setCell ⟨w.heap.size + 1, 3, none⟩ (.bool false)).setCell ⟨w.heap.size + 1, 4, none⟩ (.int .i64 (-1))).setCell ⟨w.heap.size + 1, 5, none⟩ (.int .i64 sq)).setCell ⟨w.heap.size + 1, 6, none⟩ (.slice D 32 dn)).setCell ⟨w.heap.size + 1, 7, none⟩ (.bool false))) := ((((((((HB3.out.setCell (by exact Nat.le_succ _) _).setCell (by exact Nat.le_succ _) _).setCell (by exact Nat.le_succ _) _).setCell (by exact Nat.le_succ _) _).setCell (by exact Nat.le_succ _) _).setCell (by exact Nat.le_succ _) _).setCell (by exact Nat.le_succ _) _).setCell (by exact Nat.le_succ _) _)
  have hzs := set_log HZ3.out (.slice A4 n4 c4) (.slice B4 m4 k4) (.int .i64 room) (.bool false) (.int .i64 (-1)) (.int .i64 sq) (.slice D 32 dn) (.bool false)
  have HBE : Hid (Below w.heap.size w WE) := hide (by rw [← hWE]; exact hBE0)
  have HZE : Hid (Blk WE (w.heap.size + 1) 26 #[.slice A4 n4 c4, .slice B4 m4 k4, .int .i64 room, .bool false, .int .i64 (-1), .int .i64 sq, .slice D 32 dn, .bool false]) := hide (by rw [← hWE]; exact hzs)
  have HF : Hid (POST (.returned (.tuple #[.agg #[.slice A4 n4 c4, .slice B4 m4 k4, .int .i64 room, .bool false, .int .i64 (-1), .int .i64 sq, .slice D 32 dn, .bool false], .slice O q co, .int .i64 0])) WE) := hide (by
    refine HEND.out _ _ ⟨A4, n4, c4, B4, m4, k4, D, dn, O, co, l, by rw [HOPL.out, HQ.out], ⟨?_, HL3.out.ls, ?_, HL3.out.lp, ?_, HL3.out.lh, HL3.out.sn, HL3.out.sm, HL3.out.sh⟩, ?_, HM3.out, HBE.out⟩
    · rw [← hWE]; exact rd_log HL3.out.rs HZ3.out (.slice A4 n4 c4) (.slice B4 m4 k4) (.int .i64 room) (.bool false) (.int .i64 (-1)) (.int .i64 sq) (.slice D 32 dn) (.bool false)
    · rw [← hWE]; exact rd_log HL3.out.rp HZ3.out (.slice A4 n4 c4) (.slice B4 m4 k4) (.int .i64 room) (.bool false) (.int .i64 (-1)) (.int .i64 sq) (.slice D 32 dn) (.bool false)
    · rw [← hWE]; exact rd_log HL3.out.rh HZ3.out (.slice A4 n4 c4) (.slice B4 m4 k4) (.int .i64 room) (.bool false) (.int .i64 (-1)) (.int .i64 sq) (.slice D 32 dn) (.bool false)
    · rw [← hWE, HQ.out]; exact (row_log HO3.out HZ3.out (.slice A4 n4 c4) (.slice B4 m4 k4) (.int .i64 room) (.bool false) (.int .i64 (-1)) (.int .i64 sq) (.slice D 32 dn) (.bool false)).more HB2.out.size)
  clear HBE HEND HOPL HL3 HO3 HM3 HB3 hBE0 hzs
  go_wp2_with fail
  clear hWE u0 u1 u2 u3 u4 u5 u6 u7 uz0 uz1 uz2 uz3 uz4 uz5 uz6 uz7
  obtain ⟨y0, y1, y2, y3, y4, y5, y6, y7⟩ := HZE.out.eight
  have yz0 := HZE.out.frozen 0
  have yz1 := HZE.out.frozen 1
  have yz2 := HZE.out.frozen 2
  have yz3 := HZE.out.frozen 3
  have yz4 := HZE.out.frozen 4
  have yz5 := HZE.out.frozen 5
  have yz6 := HZE.out.frozen 6
  have yz7 := HZE.out.frozen 7
  have yl := HZE.out.lt
  refine bodyPost_ret (v := .tuple #[.agg #[.slice A4 n4 c4, .slice B4 m4 k4, .int .i64 room, .bool false, .int .i64 (-1), .int .i64 sq, .slice D 32 dn, .bool false], .slice O q co, .int .i64 0]) (by simp only [results, Tryz.results10]; go_simp) rfl HF.out
end Go.Proofs.YtbbobffedgcbhaaGreatDoor
